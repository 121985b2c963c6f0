import Derived.Test.YtmdpdgldmedebaaGreatDoorMShelf
namespace Go.Proofs.YtmdpdgldmedebaaGreatDoor
set_option linter.unusedSimpArgs false
set_option linter.unusedVariables false
set_option linter.unusedSimpArgs false
set_option linter.unusedVariables false
open Go.RowKit

theorem bytes_toList (s : ByteArray) : s.toList = s.data.toList := ByteArray.toList_eq s

def LettersTo (s : ByteArray) (k : Nat) : Prop := ∀ j, j < k → ∀ h : j < s.size, letterB s[j] = true
theorem LettersTo.zero (s : ByteArray) : LettersTo s 0 := fun _ h => by omega
theorem LettersTo.succ {s : ByteArray} {k : Nat} (h : LettersTo s k) (hk : k < s.size) (hp : letterB s[k] = true) : LettersTo s (k + 1) := fun j hj hs => by
  by_cases e : j = k
  · subst e; exact hp
  · exact h j (by omega) hs
theorem LettersTo.all {s : ByteArray} {k : Nat} (h : LettersTo s k) (hk : s.size ≤ k) : s.toList.all letterB = true := by
  rw [List.all_eq_true]
  intro x hx
  rw [bytes_toList] at hx
  obtain ⟨j, hj, rfl⟩ := List.getElem_of_mem hx
  have hj' : j < s.size := by simpa using hj
  exact h j (by omega) hj'
theorem not_letters {s : ByteArray} {k : Nat} (hk : k < s.size) (hp : letterB s[k] = false) : s.toList.all letterB = false := by
  rw [List.all_eq_false]
  refine ⟨s[k], ?_, by simp [hp]⟩
  rw [bytes_toList]
  exact List.getElem_mem (by simpa using hk)
theorem size_toList (s : ByteArray) : s.toList.length = s.size := by rw [bytes_toList]; rfl

theorem namedL_short {s : ByteArray} (h : s.size < 1 ∨ 12 < s.size) : namedL s.toList = false := by
  unfold namedL
  rw [size_toList]
  rcases h with h | h
  · simp [show ¬ 1 ≤ s.size by omega]
  · simp [show ¬ s.size ≤ 12 by omega]
theorem namedL_letter {s : ByteArray} {k : Nat} (hk : k < s.size) (hp : letterB s[k] = false) : namedL s.toList = false := by
  unfold namedL
  rw [not_letters hk hp]; simp
theorem namedL_word {s : ByteArray} (h : wordsL.contains s.toList = true) : namedL s.toList = false := by
  unfold namedL
  rw [h]; simp
theorem namedL_yes {s : ByteArray} {k : Nat} (h1 : 1 ≤ s.size) (h2 : s.size ≤ 12) (h : LettersTo s k) (hk : s.size ≤ k) (hw : wordsL.contains s.toList = false) : namedL s.toList = true := by
  unfold namedL
  rw [size_toList, h.all hk, hw]; simp [h1, h2]

/-- The first k words are not s. -/
def NotWords (l : List UInt8) (k : Nat) : Prop := ∀ j, j < k → wordsL[j]? ≠ some l
theorem NotWords.succ {l : List UInt8} {k : Nat} (h : NotWords l k) (hk : wordsL[k]? ≠ some l) : NotWords l (k + 1) := fun j hj => by
  by_cases e : j = k
  · subst e; exact hk
  · exact h j (by omega)
theorem NotWords.no {l : List UInt8} (h : NotWords l 9) : wordsL.contains l = false := by
  rw [Bool.eq_false_iff]
  intro hc
  obtain ⟨j, hj, e⟩ := List.getElem_of_mem (List.contains_iff_mem.1 hc)
  exact h j hj (by rw [List.getElem?_eq_getElem hj, e])
theorem word_in {l : List UInt8} {k : Nat} (h : wordsL[k]? = some l) : wordsL.contains l = true := List.contains_iff_mem.2 (List.mem_of_getElem? h)

theorem word0 (w : World) : Sem.run Tryz.prog (Instr.index 140 (Value.agg #[Value.string { data := #[98, 111, 111, 108] }, Value.string { data := #[101, 110, 117, 109] }, Value.string { data := #[103, 111, 110, 101] }, Value.string { data := #[105, 110, 116] }, Value.string { data := #[109, 97, 110, 121] }, Value.string { data := #[109, 97, 121, 98, 101] }, Value.string { data := #[109, 101, 115, 115, 97, 103, 101] }, Value.string { data := #[111, 110, 101] }, Value.string { data := #[116, 101, 120, 116] }]) (Value.int IntKind.i64 0)) w = .ok (Value.string { data := #[98, 111, 111, 108] }) w := by kernel_rfl
theorem word1 (w : World) : Sem.run Tryz.prog (Instr.index 140 (Value.agg #[Value.string { data := #[98, 111, 111, 108] }, Value.string { data := #[101, 110, 117, 109] }, Value.string { data := #[103, 111, 110, 101] }, Value.string { data := #[105, 110, 116] }, Value.string { data := #[109, 97, 110, 121] }, Value.string { data := #[109, 97, 121, 98, 101] }, Value.string { data := #[109, 101, 115, 115, 97, 103, 101] }, Value.string { data := #[111, 110, 101] }, Value.string { data := #[116, 101, 120, 116] }]) (Value.int IntKind.i64 1)) w = .ok (Value.string { data := #[101, 110, 117, 109] }) w := by kernel_rfl
theorem word2 (w : World) : Sem.run Tryz.prog (Instr.index 140 (Value.agg #[Value.string { data := #[98, 111, 111, 108] }, Value.string { data := #[101, 110, 117, 109] }, Value.string { data := #[103, 111, 110, 101] }, Value.string { data := #[105, 110, 116] }, Value.string { data := #[109, 97, 110, 121] }, Value.string { data := #[109, 97, 121, 98, 101] }, Value.string { data := #[109, 101, 115, 115, 97, 103, 101] }, Value.string { data := #[111, 110, 101] }, Value.string { data := #[116, 101, 120, 116] }]) (Value.int IntKind.i64 2)) w = .ok (Value.string { data := #[103, 111, 110, 101] }) w := by kernel_rfl
theorem word3 (w : World) : Sem.run Tryz.prog (Instr.index 140 (Value.agg #[Value.string { data := #[98, 111, 111, 108] }, Value.string { data := #[101, 110, 117, 109] }, Value.string { data := #[103, 111, 110, 101] }, Value.string { data := #[105, 110, 116] }, Value.string { data := #[109, 97, 110, 121] }, Value.string { data := #[109, 97, 121, 98, 101] }, Value.string { data := #[109, 101, 115, 115, 97, 103, 101] }, Value.string { data := #[111, 110, 101] }, Value.string { data := #[116, 101, 120, 116] }]) (Value.int IntKind.i64 3)) w = .ok (Value.string { data := #[105, 110, 116] }) w := by kernel_rfl
theorem word4 (w : World) : Sem.run Tryz.prog (Instr.index 140 (Value.agg #[Value.string { data := #[98, 111, 111, 108] }, Value.string { data := #[101, 110, 117, 109] }, Value.string { data := #[103, 111, 110, 101] }, Value.string { data := #[105, 110, 116] }, Value.string { data := #[109, 97, 110, 121] }, Value.string { data := #[109, 97, 121, 98, 101] }, Value.string { data := #[109, 101, 115, 115, 97, 103, 101] }, Value.string { data := #[111, 110, 101] }, Value.string { data := #[116, 101, 120, 116] }]) (Value.int IntKind.i64 4)) w = .ok (Value.string { data := #[109, 97, 110, 121] }) w := by kernel_rfl
theorem word5 (w : World) : Sem.run Tryz.prog (Instr.index 140 (Value.agg #[Value.string { data := #[98, 111, 111, 108] }, Value.string { data := #[101, 110, 117, 109] }, Value.string { data := #[103, 111, 110, 101] }, Value.string { data := #[105, 110, 116] }, Value.string { data := #[109, 97, 110, 121] }, Value.string { data := #[109, 97, 121, 98, 101] }, Value.string { data := #[109, 101, 115, 115, 97, 103, 101] }, Value.string { data := #[111, 110, 101] }, Value.string { data := #[116, 101, 120, 116] }]) (Value.int IntKind.i64 5)) w = .ok (Value.string { data := #[109, 97, 121, 98, 101] }) w := by kernel_rfl
theorem word6 (w : World) : Sem.run Tryz.prog (Instr.index 140 (Value.agg #[Value.string { data := #[98, 111, 111, 108] }, Value.string { data := #[101, 110, 117, 109] }, Value.string { data := #[103, 111, 110, 101] }, Value.string { data := #[105, 110, 116] }, Value.string { data := #[109, 97, 110, 121] }, Value.string { data := #[109, 97, 121, 98, 101] }, Value.string { data := #[109, 101, 115, 115, 97, 103, 101] }, Value.string { data := #[111, 110, 101] }, Value.string { data := #[116, 101, 120, 116] }]) (Value.int IntKind.i64 6)) w = .ok (Value.string { data := #[109, 101, 115, 115, 97, 103, 101] }) w := by kernel_rfl
theorem word7 (w : World) : Sem.run Tryz.prog (Instr.index 140 (Value.agg #[Value.string { data := #[98, 111, 111, 108] }, Value.string { data := #[101, 110, 117, 109] }, Value.string { data := #[103, 111, 110, 101] }, Value.string { data := #[105, 110, 116] }, Value.string { data := #[109, 97, 110, 121] }, Value.string { data := #[109, 97, 121, 98, 101] }, Value.string { data := #[109, 101, 115, 115, 97, 103, 101] }, Value.string { data := #[111, 110, 101] }, Value.string { data := #[116, 101, 120, 116] }]) (Value.int IntKind.i64 7)) w = .ok (Value.string { data := #[111, 110, 101] }) w := by kernel_rfl
theorem word8 (w : World) : Sem.run Tryz.prog (Instr.index 140 (Value.agg #[Value.string { data := #[98, 111, 111, 108] }, Value.string { data := #[101, 110, 117, 109] }, Value.string { data := #[103, 111, 110, 101] }, Value.string { data := #[105, 110, 116] }, Value.string { data := #[109, 97, 110, 121] }, Value.string { data := #[109, 97, 121, 98, 101] }, Value.string { data := #[109, 101, 115, 115, 97, 103, 101] }, Value.string { data := #[111, 110, 101] }, Value.string { data := #[116, 101, 120, 116] }]) (Value.int IntKind.i64 8)) w = .ok (Value.string { data := #[116, 101, 120, 116] }) w := by kernel_rfl
theorem word_is {l v : List UInt8} (h : (l == v) = true) (hv : wordsL.contains v = true) : wordsL.contains l = true := by rw [eq_of_beq h]; exact hv
theorem not_word {l v : List UInt8} {k : Nat} (hk : wordsL[k]? = some v) (h : (l == v) = false) : wordsL[k]? ≠ some l := fun e => by
  rw [hk] at e
  cases e
  simp at h
theorem nine (k : Nat) (h : k < 9) : k = 0 ∨ k = 1 ∨ k = 2 ∨ k = 3 ∨ k = 4 ∨ k = 5 ∨ k = 6 ∨ k = 7 ∨ k = 8 := by omega

set_option maxHeartbeats 1600000 in
set_option maxRecDepth 20000 in
theorem named_any (s : ByteArray) (w : World) (hw : WordsAt w) (hn : s.size ≤ 9223372036854775807) :
    Calls Tryz.prog 87 #[.string s] w fun e w' => e = .returned (.bool (namedL s.toList)) ∧ w' = w := by
  by_cases hs : s.size < 1 ∨ 12 < s.size
  · have e := namedL_short hs
    rcases hs with hs | hs
    · go_enter Tryz.func87, Tryz.ntmps87
      go_wp2
      go_ret
      exact ⟨rfl, rfl⟩
    · have hs1 : ¬ s.size < 1 := by omega
      rw [e]
      clear e
      go_enter Tryz.func87, Tryz.ntmps87
      go_wp2
      go_ret
      exact ⟨rfl, rfl⟩
  · have c0 := hw 0 _ rfl
    have c1 : w.cell? ⟨0, 1, none⟩ = some (.string ⟨#[101, 110, 117, 109]⟩) := hw 1 _ rfl
    have c2 : w.cell? ⟨0, 2, none⟩ = some (.string ⟨#[103, 111, 110, 101]⟩) := hw 2 _ rfl
    have c3 : w.cell? ⟨0, 3, none⟩ = some (.string ⟨#[105, 110, 116]⟩) := hw 3 _ rfl
    have c4 : w.cell? ⟨0, 4, none⟩ = some (.string ⟨#[109, 97, 110, 121]⟩) := hw 4 _ rfl
    have c5 : w.cell? ⟨0, 5, none⟩ = some (.string ⟨#[109, 97, 121, 98, 101]⟩) := hw 5 _ rfl
    have c6 : w.cell? ⟨0, 6, none⟩ = some (.string ⟨#[109, 101, 115, 115, 97, 103, 101]⟩) := hw 6 _ rfl
    have c7 : w.cell? ⟨0, 7, none⟩ = some (.string ⟨#[111, 110, 101]⟩) := hw 7 _ rfl
    have c8 : w.cell? ⟨0, 8, none⟩ = some (.string ⟨#[116, 101, 120, 116]⟩) := hw 8 _ rfl
    have hs1 : 1 ≤ s.size := by omega
    have hs2 : s.size ≤ 12 := by omega
    clear hs hw
    go_enter Tryz.func87, Tryz.ntmps87
    go_wp2
    go_loop [16] (fun i => ∃ k : Nat, k ≤ s.size ∧ i = .int .i64 k ∧ LettersTo s k) (fun i => s.size - (intOf i).toNat)
    case atStart => exact ⟨0, by omega, rfl, LettersTo.zero _⟩
    case round =>
      obtain ⟨k, hk, rfl, hne⟩ := hrel
      have Hne : Hid (LettersTo s k) := hne
      clear hne
      by_cases hlt : k < s.size
      · cases hl : letterB s[k]
        · have Hl : Hid (letterB s[k] = false) := hl
          clear hl
          go_wp2_with (go_at_call 111; refine (isLetter_any _ _).mono ?_; rintro e w' ⟨rfl, rfl⟩; rw [Hl.out])
          go_ret
          exact ⟨by rw [namedL_letter hlt Hl.out]; rfl, rfl⟩
        · have Hl : Hid (letterB s[k] = true) := hl
          clear hl
          go_wp2_with (go_at_call 111; refine (isLetter_any _ _).mono ?_; rintro e w' ⟨rfl, rfl⟩; rw [Hl.out])
          exact ⟨⟨k + 1, by omega, by go_num, LettersTo.succ Hne.out hlt Hl.out⟩, by simp [intOf]; omega⟩
      · go_wp2
        go_loop [26] (fun i => ∃ k : Nat, k ≤ 9 ∧ i = .int .i64 k ∧ NotWords s.toList k) (fun i => 9 - (intOf i).toNat)
        case atStart => exact ⟨0, by omega, rfl, fun _ h => by omega⟩
        case round =>
          obtain ⟨j, hj, rfl, hnw⟩ := hrel
          have Hnw : Hid (NotWords s.toList j) := hnw
          clear hnw
          by_cases hlj : j < 9
          · have h9 := nine j hlj
            obtain ⟨z, hz⟩ : ∃ z : Int, (j : Int) = z := ⟨_, rfl⟩
            rw [hz]
            rcases h9 with rfl | rfl | rfl | rfl | rfl | rfl | rfl | rfl | rfl
            all_goals
              simp only [Int.cast_ofNat_Int] at hz
              subst hz
              have i0 := word0
              have i1 := word1
              have i2 := word2
              have i3 := word3
              have i4 := word4
              have i5 := word5
              have i6 := word6
              have i7 := word7
              have i8 := word8
              go_wp2
              · have hww := ‹(s.toList == _) = true›
                go_ret
                exact ⟨by rw [namedL_word (word_is hww (by decide))]; rfl, rfl⟩
              · have hww := ‹(s.toList == _) = false›
                exact ⟨⟨_, by omega, by go_num, NotWords.succ Hnw.out (not_word rfl hww)⟩, by simp [intOf]⟩
          · go_wp2
            go_ret
            obtain rfl : j = 9 := by omega
            exact ⟨by rw [namedL_yes hs1 hs2 Hne.out (by omega) Hnw.out.no]; rfl, rfl⟩
end Go.Proofs.YtmdpdgldmedebaaGreatDoor

namespace Go.Proofs.YtmdpdgldmedebaaGreatDoor
set_option linter.unusedSimpArgs false
set_option linter.unusedVariables false
open Go.RowKit

def StrsAt (w : World) (s : SV) (l : List ByteArray) : Prop := SliceAt 1 (fun _ cs x => cs = [.string x]) w s l
theorem StrsAt.ext {w w' : World} {s : SV} {l : List ByteArray} (h : StrsAt w s l) (he : Ext w w') : StrsAt w' s l := SliceAt.ext h he fun _ _ h => h
theorem StrsAt.cell {w : World} {s : SV} {l : List ByteArray} (h : StrsAt w s l) {k : Nat} (hk : k < l.length) : ∃ b o, s.a = some ⟨b, o, none⟩ ∧ w.cell? ⟨b, o + k, none⟩ = some (.string l[k]) := by
  obtain ⟨b, o, cs, h1, h2, rfl⟩ := h.2 k l[k] (by simp [hk])
  have := range1 h2
  rw [Nat.mul_one] at this
  exact ⟨b, o, h1, this⟩

/-- slices.Contains on the first n of a list of texts. -/
theorem containsStr_any (s : SV) (l : List ByteArray) (n c : Nat) (x : ByteArray) (w : World) (hs : StrsAt w s l) (hn : n ≤ l.length) (hb : l.length ≤ 9223372036854775807) :
    Calls Tryz.prog 124 #[.slice s.a n c, .string x] w fun e w' => e = .returned (.bool (Lib.containsS (l.take n) x)) ∧ w' = w := by
  by_cases h0 : n = 0
  · subst h0
    exact (Tryz.slices_Contains_string_empty s.a c x w).mono fun e w' ⟨h1, h2⟩ => ⟨by rw [h1]; rfl, h2⟩
  · obtain ⟨b, o, ha, _⟩ := hs.cell (show 0 < l.length by omega)
    rw [ha]
    refine Tryz.slices_Contains_string b o n c l x w hn (by omega) fun j hj => ?_
    obtain ⟨b', o', ha', hc⟩ := hs.cell hj
    rw [ha] at ha'
    simp only [Option.some.injEq, Addr.mk.injEq] at ha'
    obtain ⟨rfl, rfl, _⟩ := ha'
    rw [hc]
    simp [List.getD, hj]

theorem containsInt_any (s : SV) (l : List Int) (x : Int) (w : World) (hs : IntsAt w s l) (hb : l.length ≤ 9223372036854775807) :
    Calls Tryz.prog 60 #[.slice s.a s.len s.cap, .int .i64 x] w fun e w' => e = .returned (.bool (l.contains x)) ∧ w' = w := by
  by_cases h0 : l.length = 0
  · have : l = [] := List.length_eq_zero_iff.1 h0
    subst this
    rw [hs.1]
    exact Tryz.slices_Contains_int_empty s.a s.cap x w
  · obtain ⟨b, o, ha, _⟩ := hs.cell (show 0 < l.length by omega)
    rw [ha, hs.1]
    have := Tryz.slices_Contains_int b o l.length s.cap l x w (Nat.le_refl _) (by omega) fun j hj => by
      obtain ⟨b', o', ha', hc⟩ := hs.cell hj
      rw [ha] at ha'
      simp only [Option.some.injEq, Addr.mk.injEq] at ha'
      obtain ⟨rfl, rfl, _⟩ := ha'
      rw [hc]
      simp [List.getD, hj]
    rwa [List.take_length] at this

def nameOkAt (l : List ByteArray) (i : Nat) : Bool := namedL (l.getD i ByteArray.empty).toList && !Lib.containsS (l.take i) (l.getD i ByteArray.empty)
def goodNamesL (l : List ByteArray) : Bool := (List.range l.length).all (nameOkAt l)

set_option maxHeartbeats 800000 in
theorem goodNames_any (s : SV) (l : List ByteArray) (w : World) (hs : StrsAt w s l) (hw : WordsAt w) (hn : l.length ≤ 9223372036854775807) (hc : s.len ≤ s.cap) (hsz : ∀ x ∈ l, x.size ≤ 9223372036854775807) :
    Calls Tryz.prog 112 #[.slice s.a s.len s.cap] w fun e w' => e = .returned (.bool (goodNamesL l)) ∧ Ext w w' := by
  obtain ⟨a, n, cap⟩ := s
  have hl := hs.1
  simp only at hl
  subst hl
  show Calls Tryz.prog 112 #[.slice a l.length cap] w _
  simp only at hc
  go_enter Tryz.func112, Tryz.ntmps112
  go_wp2
  go_loopw [7] (fun i wr => ∃ k : Nat, k ≤ l.length ∧ i = .int .i64 k ∧ AllTo (nameOkAt l) k ∧ Ext w wr) (fun i wr => l.length - (intOf i).toNat)
  case atStart => exact ⟨0, by omega, rfl, AllTo.zero _, Ext.refl w⟩
  case round =>
    obtain ⟨k, hk, rfl, hne, hx⟩ := hrel
    by_cases hlt : k < l.length
    · obtain ⟨b, o, rfl, h0⟩ := hs.cell hlt
      replace h0 := hx.cell h0
      have hwr := hw.ext hx
      have hsr := hs.ext hx
      have hkk : l.getD k ByteArray.empty = l[k] := by simp [List.getD, hlt]
      have hsk := hsz l[k] (List.getElem_mem hlt)
      cases hnm : namedL l[k].toList
      · have e : nameOkAt l k = false := by unfold nameOkAt; rw [hkk, hnm]; rfl
        have Hn : Hid (namedL l[k].toList = false) := hnm
        clear hnm hkk hsz hs
        go_wp2_with (go_at_call 87; refine (named_any _ _ hwr hsk).mono ?_; rintro e w' ⟨rfl, rfl⟩; rw [Hn.out])
        go_ret
        exact ⟨by rw [show goodNamesL l = false from not_all_range hlt e]; rfl, hx⟩
      · cases hct : Lib.containsS (l.take k) l[k]
        · have e : nameOkAt l k = true := by unfold nameOkAt; rw [hkk, hnm, hct]; rfl
          have Hn : Hid (namedL l[k].toList = true) := hnm
          have Hc : Hid (Lib.containsS (l.take k) l[k] = false) := hct
          clear hnm hkk hsz hs hct
          go_wp2_with (first | (go_at_call 87; refine (named_any _ _ hwr hsk).mono ?_; rintro e w' ⟨rfl, rfl⟩; rw [Hn.out]) | (go_at_call 124; refine (containsStr_any ⟨some ⟨b, o, none⟩, l.length, cap⟩ l k cap l[k] _ hsr (by omega) hn).mono ?_; rintro e w' ⟨rfl, rfl⟩; rw [Hc.out]))
          exact ⟨⟨k + 1, by omega, by go_num, hne.succ e, hx⟩, by simp [intOf]; omega⟩
        · have e : nameOkAt l k = false := by unfold nameOkAt; rw [hkk, hnm, hct]; rfl
          have Hn : Hid (namedL l[k].toList = true) := hnm
          have Hc : Hid (Lib.containsS (l.take k) l[k] = true) := hct
          clear hnm hkk hsz hs hct
          go_wp2_with (first | (go_at_call 87; refine (named_any _ _ hwr hsk).mono ?_; rintro e w' ⟨rfl, rfl⟩; rw [Hn.out]) | (go_at_call 124; refine (containsStr_any ⟨some ⟨b, o, none⟩, l.length, cap⟩ l k cap l[k] _ hsr (by omega) hn).mono ?_; rintro e w' ⟨rfl, rfl⟩; rw [Hc.out]))
          go_ret
          exact ⟨by rw [show goodNamesL l = false from not_all_range hlt e]; rfl, hx⟩
    · go_wp2
      go_ret
      exact ⟨by rw [show goodNamesL l = true from AllTo.all hne (by omega)]; rfl, hx⟩
end Go.Proofs.YtmdpdgldmedebaaGreatDoor

namespace Go.Proofs.YtmdpdgldmedebaaGreatDoor
set_option linter.unusedSimpArgs false
set_option linter.unusedVariables false
open Go.RowKit

def idsApartAt (ids gone : List Int) (i : Nat) : Bool := !gone.contains (ids.getD i 0)
def goodIdsL (ids gone : List Int) : Bool := risingL ids 1 30 && risingL gone 1 30 && (List.range ids.length).all (idsApartAt ids gone)

set_option maxHeartbeats 800000 in
theorem goodIds_any (s g : SV) (ids gone : List Int) (w : World) (hs : IntsAt w s ids) (hg : IntsAt w g gone) (hn : ids.length ≤ 9223372036854775807) (hm : gone.length ≤ 9223372036854775807) :
    Calls Tryz.prog 115 #[.slice s.a s.len s.cap, .slice g.a g.len g.cap] w fun e w' => e = .returned (.bool (goodIdsL ids gone)) ∧ Ext w w' := by
  obtain ⟨a, n, cap⟩ := s
  have hl := hs.1
  simp only at hl
  subst hl
  show Calls Tryz.prog 115 #[.slice a ids.length cap, .slice g.a g.len g.cap] w _
  cases h1 : risingL ids 1 30
  · have e : goodIdsL ids gone = false := by unfold goodIdsL; rw [h1]; rfl
    have H1 : Hid (risingL ids 1 30 = false) := h1
    rw [e]
    clear h1 e
    go_enter Tryz.func115, Tryz.ntmps115
    go_wp2_with fail
    refine (rising_any ⟨a, ids.length, cap⟩ ids 1 30 w hs hn).mono ?_
    rintro e w1 ⟨rfl, hx⟩
    rw [H1.out]
    go_wp2
    go_ret
    exact ⟨rfl, hx⟩
  cases h2 : risingL gone 1 30
  · have e : goodIdsL ids gone = false := by unfold goodIdsL; rw [h1, h2]; rfl
    have H1 : Hid (risingL ids 1 30 = true) := h1
    have H2 : Hid (risingL gone 1 30 = false) := h2
    rw [e]
    clear h1 h2 e
    go_enter Tryz.func115, Tryz.ntmps115
    go_wp2_with fail
    refine (rising_any ⟨a, ids.length, cap⟩ ids 1 30 w hs hn).mono ?_
    rintro e w1 ⟨rfl, hx⟩
    rw [H1.out]
    go_wp2_with fail
    refine (rising_any g gone 1 30 w1 (hg.ext hx) hm).mono ?_
    rintro e w2 ⟨rfl, hx2⟩
    rw [H2.out]
    go_wp2
    go_ret
    exact ⟨rfl, hx.trans hx2⟩
  have H1 : Hid (risingL ids 1 30 = true) := h1
  have H2 : Hid (risingL gone 1 30 = true) := h2
  have E : Hid (goodIdsL ids gone = (List.range ids.length).all (idsApartAt ids gone)) := by unfold Hid goodIdsL; rw [h1, h2]; rfl
  clear h1 h2
  go_enter Tryz.func115, Tryz.ntmps115
  go_wp2_with fail
  refine (rising_any ⟨a, ids.length, cap⟩ ids 1 30 w hs hn).mono ?_
  rintro e w1 ⟨rfl, hx⟩
  rw [H1.out]
  go_wp2_with fail
  refine (rising_any g gone 1 30 w1 (hg.ext hx) hm).mono ?_
  rintro e w2 ⟨rfl, hx2⟩
  rw [H2.out]
  go_wp2
  go_loopw [17] (fun i wr => ∃ k : Nat, k ≤ ids.length ∧ i = .int .i64 k ∧ AllTo (idsApartAt ids gone) k ∧ Ext w wr) (fun i wr => ids.length - (intOf i).toNat)
  case atStart => exact ⟨0, by omega, rfl, AllTo.zero _, hx.trans hx2⟩
  case round =>
    obtain ⟨k, hk, rfl, hne, hxr⟩ := hrel
    by_cases hlt : k < ids.length
    · obtain ⟨b, o, rfl, h0⟩ := hs.cell hlt
      replace h0 := hxr.cell h0
      have hgr := hg.ext hxr
      have hkk : ids.getD k 0 = ids[k] := by simp [List.getD, hlt]
      cases hct : gone.contains ids[k]
      · have e : idsApartAt ids gone k = true := by unfold idsApartAt; rw [hkk, hct]; rfl
        have Hc : Hid (gone.contains ids[k] = false) := hct
        clear hct hkk
        go_wp2_with (go_at_call 60; refine (containsInt_any g gone ids[k] _ hgr hm).mono ?_; rintro e w' ⟨rfl, rfl⟩; rw [Hc.out])
        exact ⟨⟨k + 1, by omega, by go_num, hne.succ e, hxr⟩, by simp [intOf]; omega⟩
      · have e : idsApartAt ids gone k = false := by unfold idsApartAt; rw [hkk, hct]; rfl
        have Hc : Hid (gone.contains ids[k] = true) := hct
        clear hct hkk
        go_wp2_with (go_at_call 60; refine (containsInt_any g gone ids[k] _ hgr hm).mono ?_; rintro e w' ⟨rfl, rfl⟩; rw [Hc.out])
        go_ret
        exact ⟨by rw [E.out, not_all_range hlt e]; rfl, hxr⟩
    · go_wp2
      go_ret
      exact ⟨by rw [E.out, AllTo.all hne (by omega)]; rfl, hxr⟩

theorem ret_bool {a b : Bool} (h : a = b) : Ending.returned (.bool a) = .returned (.bool b) := by rw [h]
theorem ret_int {k : IntKind} {a b : Int} (h : a = b) : Ending.returned (.int k a) = .returned (.int k b) := by rw [h]

def goodFieldM (b : BookM) (f : FieldM) : Bool :=
  if f.rule < 1 ∨ 3 < f.rule then false
  else if f.kind = 1 ∨ f.kind = 2 ∨ f.kind = 3 then f.type.toList.isEmpty
  else if f.kind = 4 ∨ f.kind = 5 then (match findM b f.type with | some t => t.enum == (f.kind == 4) | none => false)
  else false

set_option maxHeartbeats 800000 in
theorem goodField_any (s : SV) (ts : BookM) (f : FieldM) (w : World) (hs : BookAt w s ts) (hn : ts.length ≤ 9223372036854775807) :
    Calls Tryz.prog 114 #[.agg #[.slice s.a s.len s.cap], .agg #[.int .i64 f.id, .string f.name, .string f.type, .int .i64 f.kind, .int .i64 f.rule]] w fun e w' => e = .returned (.bool (goodFieldM ts f)) ∧ Ext w w' := by
  obtain ⟨fid, fname, ftype, fkind, frule⟩ := f
  show Calls Tryz.prog 114 #[.agg #[.slice s.a s.len s.cap], .agg #[.int .i64 fid, .string fname, .string ftype, .int .i64 fkind, .int .i64 frule]] w _
  by_cases h1 : frule < 1
  · have e : goodFieldM ts ⟨fid, fname, ftype, fkind, frule⟩ = false := by simp [goodFieldM, h1]
    rw [e]; clear e
    go_enter Tryz.func114, Tryz.ntmps114
    go_wp2
    go_ret
    exact ⟨rfl, ((Ext.refl w).alloc _).alloc _⟩
  by_cases h2 : 3 < frule
  · have e : goodFieldM ts ⟨fid, fname, ftype, fkind, frule⟩ = false := by simp [goodFieldM, h2]
    rw [e]; clear e
    go_enter Tryz.func114, Tryz.ntmps114
    go_wp2
    go_ret
    exact ⟨rfl, ((Ext.refl w).alloc _).alloc _⟩
  have hr : ¬ (frule < 1 ∨ 3 < frule) := by omega
  by_cases h3 : fkind = 1 ∨ fkind = 2 ∨ fkind = 3
  · have E : Hid (goodFieldM ts ⟨fid, fname, ftype, fkind, frule⟩ = (ftype.toList.isEmpty)) := by unfold Hid goodFieldM; simp only; rw [if_neg hr, if_pos h3]
    clear hr
    rcases h3 with h3 | h3 | h3
    all_goals
      subst h3
      go_enter Tryz.func114, Tryz.ntmps114
      go_wp2
      go_ret
      exact ⟨by rw [E.out]; rfl, ((Ext.refl w).alloc _).alloc _⟩
  by_cases h4 : fkind = 4 ∨ fkind = 5
  · have E : Hid (goodFieldM ts ⟨fid, fname, ftype, fkind, frule⟩ = (match findM ts ftype with | some t => t.enum == (fkind == 4) | none => false)) := by unfold Hid goodFieldM; simp only; rw [if_neg hr, if_neg h3, if_pos h4]
    clear hr h3
    have hs1 := hs.ext (((Ext.refl w).alloc (.cells #[.slice s.a s.len s.cap] 24)).alloc (.cells #[.int .i64 fid, .string fname, .string ftype, .int .i64 fkind, .int .i64 frule] 56))
    rcases h4 with h4 | h4
    all_goals
      subst h4
      go_enter Tryz.func114, Tryz.ntmps114
      go_wp2_with fail
      refine (lookUp_any s ts ftype _ hs1 hn).mono ?_
      rintro e w1 ⟨tv, rfl, htv, hx⟩
      have q3 := (hx.whole (heap_alloc2_new _ _ _)).1 3 _ rfl
      have hz : w.heap.size + 1 < w1.heap.size := by have := hx.size; simp at this; omega
      have hE : Ext w w1 := (((Ext.refl w).alloc _).alloc _).trans hx
      have hen := htv.enum
      cases hf : findM ts ftype with
      | none =>
        rw [hf] at hen
        have E' : Hid (goodFieldM ts _ = false) := E.out.trans (by rw [hf])
        clear hen htv E
        simp only [Option.isSome_none]
        go_wp2
        go_ret
        exact ⟨ret_bool (E'.out.trans (by cases tv.enum <;> rfl)).symm, hE.alloc _⟩
      | some t =>
        rw [hf] at hen
        simp only [Option.getD_some] at hen
        have E' : Hid (goodFieldM ts _ = (tv.enum == _)) := E.out.trans (by rw [hf, hen])
        clear hen htv E
        simp only [Option.isSome_some]
        go_wp2
        go_ret
        exact ⟨ret_bool (E'.out.trans (by cases tv.enum <;> rfl)).symm, hE.alloc _⟩
  · have e : goodFieldM ts ⟨fid, fname, ftype, fkind, frule⟩ = false := by unfold goodFieldM; simp only; rw [if_neg hr, if_neg h3, if_neg h4]
    rw [e]; clear e hr
    have k1 : (fkind == 1) = false := by simp; omega
    have k2 : (fkind == 2) = false := by simp; omega
    have k3 : (fkind == 3) = false := by simp; omega
    have k4 : (fkind == 4) = false := by simp; omega
    have k5 : (fkind == 5) = false := by simp; omega
    clear h3 h4
    go_enter Tryz.func114, Tryz.ntmps114
    go_wp2
    go_ret
    exact ⟨rfl, ((Ext.refl w).alloc _).alloc _⟩
end Go.Proofs.YtmdpdgldmedebaaGreatDoor

namespace Go.Proofs.YtmdpdgldmedebaaGreatDoor
set_option linter.unusedSimpArgs false
set_option linter.unusedVariables false
open Go.RowKit

theorem info9 : (Tryz.prog.info? 9).map (fun i => (i.zero, i.size, i.bytes)) = some (some (.string ⟨#[]⟩), 1, 16) := by kernel_rfl
theorem info3 : (Tryz.prog.info? 3).map (fun i => (i.zero, i.size, i.bytes)) = some (some (.int .i64 0), 1, 8) := by kernel_rfl

theorem flat_take {α β : Type} {l : List α} {k : Nat} (hk : k < l.length) (enc : α → List β) : (l.take (k + 1)).flatMap enc = (l.take k).flatMap enc ++ enc l[k] := by
  rw [List.take_succ_eq_append_getElem hk, List.flatMap_append]
  simp
theorem range_of_new1 (w : World) (u : Value) (t : TypeId) {g : Nat} (hg : g = w.heap.size) : (w.alloc (.cells #[u] t)).rangeAt g 0 [u] := fun j v hv => by
  subst hg
  match j, hv with
  | 0, hv => simp at hv; subst hv; simp
def encS (x : ByteArray) : List Value := [.string x]
def encI (x : Int) : List Value := [.int .i64 x]
theorem strs_of_owns {w : World} {base : Nat} {v : Value} {n : Nat} {l : List ByteArray} (h : w.ownsRow base 9 1 v n (l.flatMap encS)) (hn : n = l.length) : ∃ s : SV, v = .slice s.a s.len s.cap ∧ StrsAt w s l ∧ s.len ≤ s.cap := by
  obtain ⟨s, h1, h2⟩ := sliceAt_of_owns encS (fun _ => rfl) h hn
  refine ⟨s, h1, h2, ?_⟩
  rcases h.2 with ⟨rfl, h0⟩ | ⟨g, cap, cur, rfl, _, _, hc, _⟩
  · simp only [Value.slice.injEq] at h1; omega
  · simp only [Value.slice.injEq] at h1; omega
theorem ints_of_owns {w : World} {base : Nat} {v : Value} {n : Nat} {l : List Int} (h : w.ownsRow base 3 1 v n (l.flatMap encI)) (hn : n = l.length) : ∃ s : SV, v = .slice s.a s.len s.cap ∧ IntsAt w s l := sliceAt_of_owns encI (fun _ => rfl) h hn

def goodEnumM (t : TypeM) : Bool :=
  if 0 < t.fields.length ∨ 0 < t.gone.length then false
  else if t.items.length < 1 ∨ 6 < t.items.length then false
  else goodNamesL (t.items.map (·.name)) && risingL (t.items.map (·.n)) (-1099511627776) 1099511627776

set_option maxHeartbeats 1600000 in
theorem goodEnum_any (tv : TV) (t : TypeM) (w : World) (ht : TypeAt w tv t) (hw : WordsAt w) (hn : t.fields.length ≤ 9223372036854775807 ∧ t.gone.length ≤ 9223372036854775807 ∧ t.items.length ≤ 9223372036854775807) (hsz : ∀ x ∈ t.items, x.name.size ≤ 9223372036854775807) :
    Calls Tryz.prog 88 #[.agg #[.string tv.name, .bool tv.enum, .slice tv.fields.a tv.fields.len tv.fields.cap, .slice tv.gone.a tv.gone.len tv.gone.cap, .slice tv.items.a tv.items.len tv.items.cap]] w fun e w' => e = .returned (.bool (goodEnumM t)) ∧ Ext w w' := by
  obtain ⟨name, enum, ⟨fa, fn, fc⟩, ⟨ga, gn, gc⟩, ⟨ia, il, ic⟩⟩ := tv
  have hf := ht.fields.1
  have hg := ht.gone.1
  obtain ⟨hi, hts⟩ := ht.items
  simp only at hf hg hi
  subst hf hg hi
  obtain ⟨hn1, hn2, hn3⟩ := hn
  show Calls Tryz.prog 88 #[.agg #[.string name, .bool enum, .slice fa t.fields.length fc, .slice ga t.gone.length gc, .slice ia t.items.length ic]] w _
  by_cases h1 : 0 < t.fields.length
  · have e : goodEnumM t = false := by simp [goodEnumM, h1]
    rw [e]; clear e hts ht
    go_enter Tryz.func88, Tryz.ntmps88
    go_wp2
    go_ret
    exact ⟨rfl, (Ext.refl w).alloc _⟩
  by_cases h2 : 0 < t.gone.length
  · have e : goodEnumM t = false := by simp [goodEnumM, h2]
    rw [e]; clear e hts ht
    go_enter Tryz.func88, Tryz.ntmps88
    go_wp2
    go_ret
    exact ⟨rfl, (Ext.refl w).alloc _⟩
  by_cases h3 : t.items.length < 1
  · have e : goodEnumM t = false := by simp [goodEnumM, h3]
    rw [e]; clear e hts ht
    go_enter Tryz.func88, Tryz.ntmps88
    go_wp2
    go_ret
    exact ⟨rfl, (Ext.refl w).alloc _⟩
  by_cases h4 : 6 < t.items.length
  · have e : goodEnumM t = false := by simp [goodEnumM, h4]
    rw [e]; clear e hts ht
    go_enter Tryz.func88, Tryz.ntmps88
    go_wp2
    go_ret
    exact ⟨rfl, (Ext.refl w).alloc _⟩
  have E : Hid (goodEnumM t = (goodNamesL (t.items.map (·.name)) && risingL (t.items.map (·.n)) (-1099511627776) 1099511627776)) := by
    unfold Hid goodEnumM; rw [if_neg (by omega), if_neg (by omega)]
  clear ht
  go_enter Tryz.func88, Tryz.ntmps88
  go_wp2
  go_loopw [3, 4, 30] (fun vn vi i wr => ∃ k : Nat, k ≤ t.items.length ∧ i = .int .i64 k ∧ wr.ownsRow (w.heap.size + 1) 9 1 vn k (((t.items.map (·.name)).take k).flatMap encS) ∧ wr.ownsRow (w.heap.size + 1) 3 1 vi k (((t.items.map (·.n)).take k).flatMap encI) ∧ Ext (w.alloc (Obj.cells #[.string name, .bool enum, .slice fa t.fields.length fc, .slice ga t.gone.length gc, .slice ia t.items.length ic] 50)) wr) (fun vn vi i wr => t.items.length - (intOf i).toNat)
  case atStart => exact ⟨0, by omega, rfl, World.ownsRow_nil _ _ _ _, World.ownsRow_nil _ _ _ _, Ext.refl _⟩
  case round =>
    obtain ⟨k, hk, rfl, hon, hoi, hx⟩ := hrel
    have hE : Ext w wr := ((Ext.refl w).alloc _).trans hx
    have hzs : w.heap.size + 1 ≤ wr.heap.size := by have := hx.size; simp at this; omega
    by_cases hlt : k < t.items.length
    · obtain ⟨b, o, cs, rfl, hr, rfl⟩ := hts k t.items[k] (by simp [hlt])
      obtain ⟨c0, c1⟩ := range2 (hE.range hr)
      have hsk := hsz t.items[k] (List.getElem_mem hlt)
      clear hts hr hsz
      go_wp2_with (at_builtin; refine wpList_app1 _ _ 141 9 (.string ⟨#[]⟩) 1 16 Tryz.underlying141 info9 rfl (by decide) (by decide) rfl rfl (w.heap.size + 1) _ k _ rfl ((hon.alloc _).alloc _) (wr.heap.size + 1) 1 [.string t.items[k].name] rfl rfl ?c1 ?c2 ?c3 ?c4 ?_)
      case c1 => exact range_of_new1 _ _ _ (by simp)
      case c2 => intro u hu; simp at hu; subst hu; rfl
      case c3 => omega
      case c4 => simp; omega
      intro v1 w1 hon1 hg1
      have hon' := (hon.alloc (.cells #[.string t.items[k].name, .int .i64 t.items[k].n] 71)).alloc (.cells #[.string t.items[k].name] 9)
      have hoi' := (hoi.alloc (.cells #[.string t.items[k].name, .int .i64 t.items[k].n] 71)).alloc (.cells #[.string t.items[k].name] 9)
      have hoi1 := hoi'.kept hg1 (owns_apart hoi' hon' (by decide))
      have hx1 : Ext _ w1 := ((hx.alloc _).alloc _).owned hg1 hon' (by simp)
      have hc : w1.cell? ⟨wr.heap.size, 1, none⟩ = some (.int .i64 t.items[k].n) := hg1.cell (by simp) (by
        intro e
        have := (hon.lt _ e.symm).2
        simp at this)
      have hz1 : w.heap.size + 1 ≤ w1.heap.size := by have := hx1.size; simp at this; omega
      have Hon : Hid (w1.ownsRow (w.heap.size + 1) 9 1 v1 (k + 1) (((t.items.map (·.name)).take (k + 1)).flatMap encS)) := by
        unfold Hid
        rw [flat_take (by simpa using hlt)]
        simpa [encS] using hon1
      clear hon1 hon hoi hon' hoi' hg1 hx
      go_wp2_with (at_builtin; refine wpList_app1 _ _ 25 3 (.int .i64 0) 1 8 Tryz.underlying25 info3 rfl (by decide) (by decide) rfl rfl (w.heap.size + 1) _ k _ rfl (hoi1.alloc _) w1.heap.size 1 [.int .i64 t.items[k].n] rfl rfl ?c1 ?c2 ?c3 ?c4 ?_)
      case c1 => exact range_of_new1 _ _ _ (by simp)
      case c2 => intro u hu; simp at hu; subst hu; rfl
      case c3 => omega
      case c4 => simp; omega
      intro v2 w2 hoi2 hg2
      have hon2 := (Hon.out.alloc (.cells #[.int .i64 t.items[k].n] 3)).kept hg2 (owns_apart Hon.out hoi1 (by decide))
      have hx2 : Ext _ w2 := (hx1.alloc _).owned hg2 (hoi1.alloc _) (by simp)
      have Hoi : Hid (w2.ownsRow (w.heap.size + 1) 3 1 v2 (k + 1) (((t.items.map (·.n)).take (k + 1)).flatMap encI)) := by
        unfold Hid
        rw [flat_take (by simpa using hlt)]
        simpa [encI] using hoi2
      clear hoi2 hoi1 hg2
      go_wp2
      exact ⟨⟨k + 1, by omega, by go_num, hon2, Hoi.out, hx2⟩, by simp [intOf]; omega⟩
    · obtain rfl : k = t.items.length := by omega
      have e1 : (t.items.map (·.name)).take t.items.length = t.items.map (·.name) := by rw [List.take_of_length_le (by simp)]
      have e2 : (t.items.map (·.n)).take t.items.length = t.items.map (·.n) := by rw [List.take_of_length_le (by simp)]
      rw [e1] at hon
      rw [e2] at hoi
      obtain ⟨sn, rfl, hsn, hcn⟩ := strs_of_owns hon (by simp)
      obtain ⟨si, rfl, hsi⟩ := ints_of_owns hoi (by simp)
      have hwr := hw.ext hE
      clear hon hoi e1 e2 hts
      cases h5 : goodNamesL (t.items.map (·.name))
      · have H5 : Hid (goodNamesL (t.items.map (·.name)) = false) := h5
        clear h5
        go_wp2_with fail
        refine (goodNames_any sn _ wr hsn hwr (by simp; omega) hcn (fun x hx => ?_)).mono ?_
        · obtain ⟨y, hy, rfl⟩ := List.mem_map.1 hx
          have := hsz y hy
          omega
        rintro e w1 ⟨rfl, hx1⟩
        rw [H5.out]
        go_wp2
        go_ret
        exact ⟨ret_bool (E.out.trans (by rw [H5.out]; rfl)).symm, hE.trans hx1⟩
      · have H5 : Hid (goodNamesL (t.items.map (·.name)) = true) := h5
        clear h5
        go_wp2_with fail
        refine (goodNames_any sn _ wr hsn hwr (by simp; omega) hcn (fun x hx => ?_)).mono ?_
        · obtain ⟨y, hy, rfl⟩ := List.mem_map.1 hx
          have := hsz y hy
          omega
        rintro e w1 ⟨rfl, hx1⟩
        rw [H5.out]
        go_wp2_with fail
        refine (rising_any si _ _ _ w1 (hsi.ext hx1) (by simp; omega)).mono ?_
        rintro e w2 ⟨rfl, hx2⟩
        go_wp2
        go_ret
        exact ⟨ret_bool (E.out.trans (by rw [H5.out]; rfl)).symm, (hE.trans hx1).trans hx2⟩
end Go.Proofs.YtmdpdgldmedebaaGreatDoor

