import Derived.Test.YtmghhakebhgckaaGreatDoorG1
import Derived.Test.YtmghhakebhgckaaGreatDoorShelf
import Derived.Deep.QuietTactic
import Derived.BigQuiet
import Derived.Laws.Cover1
import Derived.Lib.SliceRun
namespace Go.Proofs.YtmghhakebhgckaaGreatDoor
set_option linter.unusedSimpArgs false
set_option linter.unusedVariables false
set_option linter.unusedSimpArgs false
set_option linter.unusedVariables false
open Go.RowKit

theorem bytes_toList (s : ByteArray) : s.toList = s.data.toList := ByteArray.toList_eq s

def LettersTo (s : ByteArray) (k : Nat) : Prop := ∀ j, j < k → ∀ h : j < s.size, letterB s[j] = true
theorem LettersTo.zero (s : ByteArray) : LettersTo s 0 := fun _ h => by omega
theorem LettersTo.succ {s : ByteArray} {k : Nat} (h : LettersTo s k) (hk : k < s.size) (hp : letterB s[k] = true) : LettersTo s (k + 1) := fun j hj hs => by
  by_cases e : j = k
  · subst e; exact hp
  · exact h j (by omega) hs
theorem LettersTo.all {s : ByteArray} {k : Nat} (h : LettersTo s k) (hk : s.size ≤ k) : s.toList.all letterB = true := by
  rw [List.all_eq_true]
  intro x hx
  rw [bytes_toList] at hx
  obtain ⟨j, hj, rfl⟩ := List.getElem_of_mem hx
  have hj' : j < s.size := by simpa using hj
  exact h j (by omega) hj'
theorem not_letters {s : ByteArray} {k : Nat} (hk : k < s.size) (hp : letterB s[k] = false) : s.toList.all letterB = false := by
  rw [List.all_eq_false]
  refine ⟨s[k], ?_, by simp [hp]⟩
  rw [bytes_toList]
  exact List.getElem_mem (by simpa using hk)
theorem size_toList (s : ByteArray) : s.toList.length = s.size := by rw [bytes_toList]; rfl

theorem namedL_short {s : ByteArray} (h : s.size < 1 ∨ 12 < s.size) : namedL s.toList = false := by
  unfold namedL
  rw [size_toList]
  rcases h with h | h
  · simp [show ¬ 1 ≤ s.size by omega]
  · simp [show ¬ s.size ≤ 12 by omega]
theorem namedL_letter {s : ByteArray} {k : Nat} (hk : k < s.size) (hp : letterB s[k] = false) : namedL s.toList = false := by
  unfold namedL
  rw [not_letters hk hp]; simp
theorem namedL_word {s : ByteArray} (h : wordsL.contains s.toList = true) : namedL s.toList = false := by
  unfold namedL
  rw [h]; simp
theorem namedL_yes {s : ByteArray} {k : Nat} (h1 : 1 ≤ s.size) (h2 : s.size ≤ 12) (h : LettersTo s k) (hk : s.size ≤ k) (hw : wordsL.contains s.toList = false) : namedL s.toList = true := by
  unfold namedL
  rw [size_toList, h.all hk, hw]; simp [h1, h2]

/-- The first k words are not s. -/
def NotWords (l : List UInt8) (k : Nat) : Prop := ∀ j, j < k → wordsL[j]? ≠ some l
theorem NotWords.succ {l : List UInt8} {k : Nat} (h : NotWords l k) (hk : wordsL[k]? ≠ some l) : NotWords l (k + 1) := fun j hj => by
  by_cases e : j = k
  · subst e; exact hk
  · exact h j (by omega)
theorem NotWords.no {l : List UInt8} (h : NotWords l 9) : wordsL.contains l = false := by
  rw [Bool.eq_false_iff]
  intro hc
  obtain ⟨j, hj, e⟩ := List.getElem_of_mem (List.contains_iff_mem.1 hc)
  exact h j hj (by rw [List.getElem?_eq_getElem hj, e])
theorem word_in {l : List UInt8} {k : Nat} (h : wordsL[k]? = some l) : wordsL.contains l = true := List.contains_iff_mem.2 (List.mem_of_getElem? h)

theorem word0 (w : World) : Sem.run Tryz.prog (Instr.index 59 (Value.agg #[Value.string { data := #[98, 111, 111, 108] }, Value.string { data := #[101, 110, 117, 109] }, Value.string { data := #[103, 111, 110, 101] }, Value.string { data := #[105, 110, 116] }, Value.string { data := #[109, 97, 110, 121] }, Value.string { data := #[109, 97, 121, 98, 101] }, Value.string { data := #[109, 101, 115, 115, 97, 103, 101] }, Value.string { data := #[111, 110, 101] }, Value.string { data := #[116, 101, 120, 116] }]) (Value.int IntKind.i64 0)) w = .ok (Value.string { data := #[98, 111, 111, 108] }) w := by kernel_rfl
theorem word1 (w : World) : Sem.run Tryz.prog (Instr.index 59 (Value.agg #[Value.string { data := #[98, 111, 111, 108] }, Value.string { data := #[101, 110, 117, 109] }, Value.string { data := #[103, 111, 110, 101] }, Value.string { data := #[105, 110, 116] }, Value.string { data := #[109, 97, 110, 121] }, Value.string { data := #[109, 97, 121, 98, 101] }, Value.string { data := #[109, 101, 115, 115, 97, 103, 101] }, Value.string { data := #[111, 110, 101] }, Value.string { data := #[116, 101, 120, 116] }]) (Value.int IntKind.i64 1)) w = .ok (Value.string { data := #[101, 110, 117, 109] }) w := by kernel_rfl
theorem word2 (w : World) : Sem.run Tryz.prog (Instr.index 59 (Value.agg #[Value.string { data := #[98, 111, 111, 108] }, Value.string { data := #[101, 110, 117, 109] }, Value.string { data := #[103, 111, 110, 101] }, Value.string { data := #[105, 110, 116] }, Value.string { data := #[109, 97, 110, 121] }, Value.string { data := #[109, 97, 121, 98, 101] }, Value.string { data := #[109, 101, 115, 115, 97, 103, 101] }, Value.string { data := #[111, 110, 101] }, Value.string { data := #[116, 101, 120, 116] }]) (Value.int IntKind.i64 2)) w = .ok (Value.string { data := #[103, 111, 110, 101] }) w := by kernel_rfl
theorem word3 (w : World) : Sem.run Tryz.prog (Instr.index 59 (Value.agg #[Value.string { data := #[98, 111, 111, 108] }, Value.string { data := #[101, 110, 117, 109] }, Value.string { data := #[103, 111, 110, 101] }, Value.string { data := #[105, 110, 116] }, Value.string { data := #[109, 97, 110, 121] }, Value.string { data := #[109, 97, 121, 98, 101] }, Value.string { data := #[109, 101, 115, 115, 97, 103, 101] }, Value.string { data := #[111, 110, 101] }, Value.string { data := #[116, 101, 120, 116] }]) (Value.int IntKind.i64 3)) w = .ok (Value.string { data := #[105, 110, 116] }) w := by kernel_rfl
theorem word4 (w : World) : Sem.run Tryz.prog (Instr.index 59 (Value.agg #[Value.string { data := #[98, 111, 111, 108] }, Value.string { data := #[101, 110, 117, 109] }, Value.string { data := #[103, 111, 110, 101] }, Value.string { data := #[105, 110, 116] }, Value.string { data := #[109, 97, 110, 121] }, Value.string { data := #[109, 97, 121, 98, 101] }, Value.string { data := #[109, 101, 115, 115, 97, 103, 101] }, Value.string { data := #[111, 110, 101] }, Value.string { data := #[116, 101, 120, 116] }]) (Value.int IntKind.i64 4)) w = .ok (Value.string { data := #[109, 97, 110, 121] }) w := by kernel_rfl
theorem word5 (w : World) : Sem.run Tryz.prog (Instr.index 59 (Value.agg #[Value.string { data := #[98, 111, 111, 108] }, Value.string { data := #[101, 110, 117, 109] }, Value.string { data := #[103, 111, 110, 101] }, Value.string { data := #[105, 110, 116] }, Value.string { data := #[109, 97, 110, 121] }, Value.string { data := #[109, 97, 121, 98, 101] }, Value.string { data := #[109, 101, 115, 115, 97, 103, 101] }, Value.string { data := #[111, 110, 101] }, Value.string { data := #[116, 101, 120, 116] }]) (Value.int IntKind.i64 5)) w = .ok (Value.string { data := #[109, 97, 121, 98, 101] }) w := by kernel_rfl
theorem word6 (w : World) : Sem.run Tryz.prog (Instr.index 59 (Value.agg #[Value.string { data := #[98, 111, 111, 108] }, Value.string { data := #[101, 110, 117, 109] }, Value.string { data := #[103, 111, 110, 101] }, Value.string { data := #[105, 110, 116] }, Value.string { data := #[109, 97, 110, 121] }, Value.string { data := #[109, 97, 121, 98, 101] }, Value.string { data := #[109, 101, 115, 115, 97, 103, 101] }, Value.string { data := #[111, 110, 101] }, Value.string { data := #[116, 101, 120, 116] }]) (Value.int IntKind.i64 6)) w = .ok (Value.string { data := #[109, 101, 115, 115, 97, 103, 101] }) w := by kernel_rfl
theorem word7 (w : World) : Sem.run Tryz.prog (Instr.index 59 (Value.agg #[Value.string { data := #[98, 111, 111, 108] }, Value.string { data := #[101, 110, 117, 109] }, Value.string { data := #[103, 111, 110, 101] }, Value.string { data := #[105, 110, 116] }, Value.string { data := #[109, 97, 110, 121] }, Value.string { data := #[109, 97, 121, 98, 101] }, Value.string { data := #[109, 101, 115, 115, 97, 103, 101] }, Value.string { data := #[111, 110, 101] }, Value.string { data := #[116, 101, 120, 116] }]) (Value.int IntKind.i64 7)) w = .ok (Value.string { data := #[111, 110, 101] }) w := by kernel_rfl
theorem word8 (w : World) : Sem.run Tryz.prog (Instr.index 59 (Value.agg #[Value.string { data := #[98, 111, 111, 108] }, Value.string { data := #[101, 110, 117, 109] }, Value.string { data := #[103, 111, 110, 101] }, Value.string { data := #[105, 110, 116] }, Value.string { data := #[109, 97, 110, 121] }, Value.string { data := #[109, 97, 121, 98, 101] }, Value.string { data := #[109, 101, 115, 115, 97, 103, 101] }, Value.string { data := #[111, 110, 101] }, Value.string { data := #[116, 101, 120, 116] }]) (Value.int IntKind.i64 8)) w = .ok (Value.string { data := #[116, 101, 120, 116] }) w := by kernel_rfl
theorem word_is {l v : List UInt8} (h : (l == v) = true) (hv : wordsL.contains v = true) : wordsL.contains l = true := by rw [eq_of_beq h]; exact hv
theorem not_word {l v : List UInt8} {k : Nat} (hk : wordsL[k]? = some v) (h : (l == v) = false) : wordsL[k]? ≠ some l := fun e => by
  rw [hk] at e
  cases e
  simp at h
theorem nine (k : Nat) (h : k < 9) : k = 0 ∨ k = 1 ∨ k = 2 ∨ k = 3 ∨ k = 4 ∨ k = 5 ∨ k = 6 ∨ k = 7 ∨ k = 8 := by omega

set_option maxHeartbeats 1600000 in
set_option maxRecDepth 20000 in
theorem named_any (s : ByteArray) (w : World) (hw : WordsAt w) (hn : s.size ≤ 9223372036854775807) :
    Calls Tryz.prog 18 #[.string s] w fun e w' => e = .returned (.bool (namedL s.toList)) ∧ w' = w := by
  by_cases hs : s.size < 1 ∨ 12 < s.size
  · have e := namedL_short hs
    rcases hs with hs | hs
    · go_enter Tryz.func18, Tryz.ntmps18
      go_wp2
      go_ret
      exact ⟨rfl, rfl⟩
    · have hs1 : ¬ s.size < 1 := by omega
      rw [e]
      clear e
      go_enter Tryz.func18, Tryz.ntmps18
      go_wp2
      go_ret
      exact ⟨rfl, rfl⟩
  · have c0 := hw 0 _ rfl
    have c1 : w.cell? ⟨0, 1, none⟩ = some (.string ⟨#[101, 110, 117, 109]⟩) := hw 1 _ rfl
    have c2 : w.cell? ⟨0, 2, none⟩ = some (.string ⟨#[103, 111, 110, 101]⟩) := hw 2 _ rfl
    have c3 : w.cell? ⟨0, 3, none⟩ = some (.string ⟨#[105, 110, 116]⟩) := hw 3 _ rfl
    have c4 : w.cell? ⟨0, 4, none⟩ = some (.string ⟨#[109, 97, 110, 121]⟩) := hw 4 _ rfl
    have c5 : w.cell? ⟨0, 5, none⟩ = some (.string ⟨#[109, 97, 121, 98, 101]⟩) := hw 5 _ rfl
    have c6 : w.cell? ⟨0, 6, none⟩ = some (.string ⟨#[109, 101, 115, 115, 97, 103, 101]⟩) := hw 6 _ rfl
    have c7 : w.cell? ⟨0, 7, none⟩ = some (.string ⟨#[111, 110, 101]⟩) := hw 7 _ rfl
    have c8 : w.cell? ⟨0, 8, none⟩ = some (.string ⟨#[116, 101, 120, 116]⟩) := hw 8 _ rfl
    have hs1 : 1 ≤ s.size := by omega
    have hs2 : s.size ≤ 12 := by omega
    clear hs hw
    go_enter Tryz.func18, Tryz.ntmps18
    go_wp2
    go_loop [16] (fun i => ∃ k : Nat, k ≤ s.size ∧ i = .int .i64 k ∧ LettersTo s k) (fun i => s.size - (intOf i).toNat)
    case atStart => exact ⟨0, by omega, rfl, LettersTo.zero _⟩
    case round =>
      obtain ⟨k, hk, rfl, hne⟩ := hrel
      have Hne : Hid (LettersTo s k) := hne
      clear hne
      by_cases hlt : k < s.size
      · cases hl : letterB s[k]
        · have Hl : Hid (letterB s[k] = false) := hl
          clear hl
          go_wp2_with (go_at_call 37; refine (isLetter_any _ _).mono ?_; rintro e w' ⟨rfl, rfl⟩; rw [Hl.out])
          go_ret
          exact ⟨by rw [namedL_letter hlt Hl.out]; rfl, rfl⟩
        · have Hl : Hid (letterB s[k] = true) := hl
          clear hl
          go_wp2_with (go_at_call 37; refine (isLetter_any _ _).mono ?_; rintro e w' ⟨rfl, rfl⟩; rw [Hl.out])
          exact ⟨⟨k + 1, by omega, by go_num, LettersTo.succ Hne.out hlt Hl.out⟩, by simp [intOf]; omega⟩
      · go_wp2
        go_loop [26] (fun i => ∃ k : Nat, k ≤ 9 ∧ i = .int .i64 k ∧ NotWords s.toList k) (fun i => 9 - (intOf i).toNat)
        case atStart => exact ⟨0, by omega, rfl, fun _ h => by omega⟩
        case round =>
          obtain ⟨j, hj, rfl, hnw⟩ := hrel
          have Hnw : Hid (NotWords s.toList j) := hnw
          clear hnw
          by_cases hlj : j < 9
          · have h9 := nine j hlj
            obtain ⟨z, hz⟩ : ∃ z : Int, (j : Int) = z := ⟨_, rfl⟩
            rw [hz]
            rcases h9 with rfl | rfl | rfl | rfl | rfl | rfl | rfl | rfl | rfl
            all_goals
              simp only [Int.cast_ofNat_Int] at hz
              subst hz
              have i0 := word0
              have i1 := word1
              have i2 := word2
              have i3 := word3
              have i4 := word4
              have i5 := word5
              have i6 := word6
              have i7 := word7
              have i8 := word8
              go_wp2
              · have hww := ‹(s.toList == _) = true›
                go_ret
                exact ⟨by rw [namedL_word (word_is hww (by decide))]; rfl, rfl⟩
              · have hww := ‹(s.toList == _) = false›
                exact ⟨⟨_, by omega, by go_num, NotWords.succ Hnw.out (not_word rfl hww)⟩, by simp [intOf]⟩
          · go_wp2
            go_ret
            obtain rfl : j = 9 := by omega
            exact ⟨by rw [namedL_yes hs1 hs2 Hne.out (by omega) Hnw.out.no]; rfl, rfl⟩
end Go.Proofs.YtmghhakebhgckaaGreatDoor

namespace Go.Proofs.YtmghhakebhgckaaGreatDoor
set_option linter.unusedSimpArgs false
set_option linter.unusedVariables false
open Go.RowKit

/-- Two rows of the call's own whose elements are of two types are two rows. -/
theorem owns_apart {w : World} {base base' : Nat} {e e' : TypeId} {size size' : Nat} {v v' : Value} {n n' : Nat} {xs xs' : List Value}
    (h : w.ownsRow base e size v n xs) (h' : w.ownsRow base' e' size' v' n' xs') (hne : e ≠ e') : v.ownBlock = none ∨ v.ownBlock ≠ v'.ownBlock := by
  rcases h.2 with ⟨rfl, _⟩ | ⟨g, cap, cur, rfl, _, hg, _⟩
  · exact .inl rfl
  · refine .inr ?_
    rcases h'.2 with ⟨rfl, _⟩ | ⟨g', cap', cur', rfl, _, hg', _⟩
    · simp [Value.ownBlock]
    · intro e
      simp only [Value.ownBlock, Option.some.injEq] at e
      subst e
      rw [hg] at hg'
      simp only [Option.some.injEq, Obj.cells.injEq] at hg'
      exact hne hg'.2.1

theorem Ext.grown {a w w' : World} {row : Option Nat} (h : Ext a w) (hg : w.grownBy w' row) (hr : ∀ k, row = some k → a.heap.size ≤ k) : Ext a w' := Below.grown h hg h.size hr
theorem Ext.owned {a w w' : World} {base : Nat} {e : TypeId} {size : Nat} {v : Value} {n : Nat} {xs : List Value} (h : Ext a w) (hg : w.grownBy w' v.ownBlock) (ho : w.ownsRow base e size v n xs) (hb : a.heap.size ≤ base) : Ext a w' :=
  h.grown hg fun k hk => Nat.le_trans hb (ho.lt k hk).1

theorem owns_ext {w w' : World} {base : Nat} {e : TypeId} {size : Nat} {v : Value} {n : Nat} {xs : List Value} (h : w.ownsRow base e size v n xs) (he : Ext w w') : w'.ownsRow base e size v n xs := by
  refine ⟨h.1, ?_⟩
  rcases h.2 with h0 | ⟨g, cap, cur, hv, hb, hg, r⟩
  · exact .inl h0
  · refine .inr ⟨g, cap, cur, hv, hb, ?_, r⟩
    have hlt : g < w.heap.size := by
      by_cases hlt : g < w.heap.size
      · exact hlt
      · have hn : w.heap[g]? = none := by simp; omega
        rw [hn] at hg; cases hg
    rw [Below.block he g hlt]; exact hg

/-- A row of the call's own, as a slice of elements of k cells each. -/
theorem sliceAt_of_owns {α : Type} {k : Nat} {w : World} {base : Nat} {e : TypeId} {v : Value} {n : Nat} {l : List α} (enc : α → List Value) (hk : ∀ x, (enc x).length = k)
    (h : w.ownsRow base e k v n (l.flatMap enc)) (hn : n = l.length) : ∃ s : SV, v = .slice s.a s.len s.cap ∧ SliceAt k (fun _ cs x => cs = enc x) w s l := by
  subst hn
  rcases h.2 with ⟨rfl, h0⟩ | ⟨g, cap, cur, rfl, hb, hg, hc, hm, hs, ht⟩
  · have : l = [] := List.length_eq_zero_iff.1 h0
    subst this
    exact ⟨⟨none, 0, 0⟩, rfl, rfl, fun i x hx => by simp at hx⟩
  · refine ⟨⟨some ⟨g, 0, none⟩, l.length, cap⟩, rfl, rfl, fun i x hx => ⟨g, 0, enc x, rfl, fun j v hv => ?_, rfl⟩⟩
    have hj : j < k := by
      have := (List.getElem?_eq_some_iff.1 hv).1
      rw [hk] at this; exact this
    have hi := (List.getElem?_eq_some_iff.1 hx).1
    have key : (l.flatMap enc)[i * k + j]? = some v := by
      clear h ht hs hc hm hg hb
      induction l generalizing i with
      | nil => simp at hi
      | cons y l ih =>
        rw [List.flatMap_cons]
        cases i with
        | zero =>
          simp only [List.getElem?_cons_zero, Option.some.injEq] at hx
          subst hx
          rw [Nat.zero_mul, Nat.zero_add, List.getElem?_append_left (by rw [hk]; exact hj)]
          exact hv
        | succ i =>
          rw [List.getElem?_append_right (by rw [hk, Nat.add_mul]; omega), hk, show (i + 1) * k + j - k = i * k + j by rw [Nat.add_mul]; omega]
          exact ih i (by simpa using hx) (by simpa using hi)
    have hlt : 0 + i * k + j < l.length * k := by
      have : (i + 1) * k ≤ l.length * k := Nat.mul_le_mul_right k hi
      rw [Nat.add_mul] at this; omega
    rw [cell_of_row w g _ cur e _ hg]
    rw [← ht, List.getElem?_take] at key
    rw [if_pos (by omega)] at key
    rw [Nat.zero_add]
    simpa using key

theorem ok_of_owns {w : World} {base : Nat} {e : TypeId} {k n : Nat} {s : SV} {xs : List Value} (h : w.ownsRow base e k (.slice s.a s.len s.cap) n xs) : s.ok := by
  rcases h.2 with ⟨e, _⟩ | ⟨g, cap, cur, e, _, _, hc, _⟩
  · simp only [Value.slice.injEq] at e; exact ⟨by omega, fun _ => e.2.2⟩
  · simp only [Value.slice.injEq] at e; exact ⟨by omega, fun h => by rw [e.1] at h; cases h⟩

theorem fresh_of_owns {w w0 : World} {base : Nat} {e : TypeId} {k n : Nat} {s : SV} {xs : List Value} (h : w.ownsRow base e k (.slice s.a s.len s.cap) n xs) (hb : w0.heap.size ≤ base) : s.Fresh w0 := by
  intro ad ha
  exact Nat.le_trans hb (h.lt ad.block (by simp [Value.ownBlock, ha])).1

/-- append of one element, given as a new row of its own. -/
theorem wpList_app1 {P : Program} {w : World} {ops : Array Oper} {rest : List Oper} {o : Oper} {a : Act} {Q : Exit → Act → World → Prop} (s x : Operand) (t e : TypeId) (z : Value) (size bytes : Nat)
    (ht : P.underlying t = some (.slice e)) (hinfo : (P.info? e).map (fun i => (i.zero, i.size, i.bytes)) = some (some z, size, bytes)) (hzs : z.cells.size = size) (hsz : 0 < size) (hby : bytes ≤ 96)
    (hgd : o.guard = none) (ho : o.op = .call { callee := .builtin .append, args := #[s, x], argTypes := #[t, t] })
    (base : Nat) (v : Value) (n : Nat) (xs : List Value) (hs : a.eval s = v) (hown : w.ownsRow base e size v n xs)
    (g c : Nat) (news : List Value) (hx : a.eval x = .slice (some ⟨g, 0, none⟩) 1 c) (hl : news.length = size) (hnews : w.rangeAt g 0 news) (h1 : ∀ u ∈ news, u.oneCell' = true)
    (hn : n < 1048576) (hbase : base ≤ w.heap.size)
    (h : ∀ v' w', w'.ownsRow base e size v' (n + 1) (xs ++ news) → w.grownBy w' v.ownBlock → wpList P ops Q rest (a.put o.dst v') w') : wpList P ops Q (o :: rest) a w := by
  obtain ⟨i, hi, hz0, hz1, hz2⟩ := info_parts hinfo
  refine wpList_append_own w hgd s x t ho base e i z size bytes ht hi hz0 hz1 hz2 hzs hsz v n xs hs hown ⟨g, 0, none⟩ 1 c news hx (by rw [hl, Nat.one_mul]) (fun j u hu => ?_) h1 (by unfold maxLen; omega) ?_ hbase (fun v' w' h2 h3 _ => h v' w' h2 h3)
  · rw [Addr.add_mid]; exact hnews j u hu
  · have : (n + 1) * bytes ≤ 1048576 * 96 := Nat.mul_le_mul (by omega) hby
    omega

theorem flatMap_get {α β : Type} {k : Nat} {enc : α → List β} (hk : ∀ x, (enc x).length = k) : ∀ (l : List α) (j : Nat) (u : β), (l.flatMap enc)[j]? = some u → ∃ i r x, j = i * k + r ∧ r < k ∧ l[i]? = some x ∧ (enc x)[r]? = some u
  | [], j, u, h => by simp at h
  | y :: l, j, u, h => by
    rw [List.flatMap_cons] at h
    by_cases hj : j < k
    · rw [List.getElem?_append_left (by rw [hk]; exact hj)] at h
      exact ⟨0, j, y, by omega, hj, rfl, h⟩
    · rw [List.getElem?_append_right (by rw [hk]; omega), hk] at h
      obtain ⟨i, r, x, e, hr, hx, hu⟩ := flatMap_get hk l _ _ h
      exact ⟨i + 1, r, x, by rw [Nat.add_mul]; omega, hr, hx, hu⟩
theorem flatMap_len {α β : Type} {k : Nat} {enc : α → List β} (hk : ∀ x, (enc x).length = k) : ∀ (l : List α), (l.flatMap enc).length = l.length * k
  | [] => by simp
  | y :: l => by rw [List.flatMap_cons, List.length_append, hk, flatMap_len hk l, List.length_cons, Nat.add_mul]; omega

/-- A slice's elements, all its cells in a row. -/
theorem SliceAt.row {α : Type} {k : Nat} {w : World} {s : SV} {l : List α} {enc : α → List Value} (hk : ∀ x, (enc x).length = k) (h : SliceAt k (fun _ cs x => cs = enc x) w s l) {ad : Addr} (ha : s.a = some ad) :
    ∀ j u, (l.flatMap enc)[j]? = some u → w.cell? (ad.add j) = some u := by
  intro j u hu
  obtain ⟨i, r, x, rfl, hr, hx, hu⟩ := flatMap_get hk l j u hu
  obtain ⟨b, o, cs, h1, h2, rfl⟩ := h.2 i x hx
  rw [ha] at h1
  cases h1
  rw [Addr.add_mid]
  have := h2 r u hu
  rwa [Nat.add_assoc] at this

/-- append(nil, s...): a new slice of the same elements. -/
theorem run_app_all {α : Type} {P : Program} {w : World} (t ty e : TypeId) (z : Value) (k bytes : Nat)
    (ht : P.underlying t = some (.slice e)) (hinfo : (P.info? e).map (fun i => (i.zero, i.size, i.bytes)) = some (some z, k, bytes)) (hzs : z.cells.size = k) (hsz : 0 < k) (hby : bytes ≤ 96)
    (enc : α → List Value) (hk : ∀ x, (enc x).length = k) (h1 : ∀ x, ∀ u ∈ enc x, u.oneCell' = true) (base : Nat) (v : Value) (hown : w.ownsRow base e k v 0 []) (w0 : World) (hw0 : Ext w0 w) (hbase : w0.heap.size ≤ base) (hv : base ≤ w.heap.size) (s : SV) (l : List α) (hs : SliceAt k (fun _ cs x => cs = enc x) w s l) (h0 : s.a = none → s.len = 0 ∧ s.cap = 0) (hl : l.length ≤ 1048576) :
    ∃ (s' : SV) (w' : World), (Builtin.append_ #[t, t] ty #[v, .slice s.a s.len s.cap]).run P w = .ok (.slice s'.a s'.len s'.cap) w' ∧ SliceAt k (fun _ cs x => cs = enc x) w' s' l ∧ Ext w0 w' ∧ w.grownBy w' v.ownBlock ∧ w'.ownsRow base e k (.slice s'.a s'.len s'.cap) l.length (l.flatMap enc) := by
  obtain ⟨i, hi, hz0, hz1, hz2⟩ := info_parts hinfo
  obtain ⟨a, n, cap⟩ := s
  have hn := hs.1
  simp only at hn
  subst hn
  cases a with
  | none =>
    obtain ⟨e0, e1⟩ := h0 rfl
    simp only at e0 e1
    have : l = [] := List.length_eq_zero_iff.1 e0
    subst this
    subst e1
    have hr := run_append_owned_none (P := P) w base t ty e i k ht hi v 0 [] hown
    obtain ⟨s', hs', hsl⟩ := sliceAt_of_owns enc hk (l := []) hown rfl
    refine ⟨s', w, by rw [← hs']; exact hr, hsl, hw0, World.grownBy.refl _ _, ?_⟩
    rw [← hs']
    exact hown
  | some ad =>
    obtain ⟨v', w', hr, ho', hg, _⟩ := run_append_own (P := P) w base t ty e i z k bytes ht hi hz0 hz1 hz2 hzs hsz v 0 [] hown ad l.length cap (l.flatMap enc) (flatMap_len hk l) (hs.row hk rfl)
      (fun u hu => let ⟨x, _, hx⟩ := List.mem_flatMap.1 hu; h1 x u hx) (by unfold maxLen; omega)
      (by have : (0 + l.length) * bytes ≤ 1048576 * 96 := Nat.mul_le_mul (by omega) hby
          omega) hv
    rw [Nat.zero_add, List.nil_append] at ho'
    obtain ⟨s', rfl, hsl⟩ := sliceAt_of_owns enc hk ho' rfl
    exact ⟨s', w', hr, hsl, hw0.owned hg hown hbase, hg, ho'⟩

/-- .. as one operation of a region. -/
theorem wp_app_all {α : Type} {P : Program} {w : World} {o : Oper} {a : Act} {K : Act → World → Prop} {Q : Exit → Act → World → Prop} (d x : Operand) (t e : TypeId) (z : Value) (k bytes : Nat)
    (ho : o.op = .call { callee := .builtin .append, args := #[d, x], argTypes := #[t, t] })
    (ht : P.underlying t = some (.slice e)) (hinfo : (P.info? e).map (fun i => (i.zero, i.size, i.bytes)) = some (some z, k, bytes)) (hzs : z.cells.size = k) (hsz : 0 < k) (hby : bytes ≤ 96)
    (enc : α → List Value) (hk : ∀ x, (enc x).length = k) (h1 : ∀ x, ∀ u ∈ enc x, u.oneCell' = true) (base : Nat) (v : Value) (hown : w.ownsRow base e k v 0 []) (w0 : World) (hw0 : Ext w0 w) (hbase : w0.heap.size ≤ base) (hv : base ≤ w.heap.size) (hd : a.eval d = v) (s : SV) (l : List α) (hs : SliceAt k (fun _ cs x => cs = enc x) w s l) (h0 : s.a = none → s.len = 0 ∧ s.cap = 0) (hl : l.length ≤ 1048576)
    (hx : a.eval x = .slice s.a s.len s.cap)
    (h : ∀ (s' : SV) (w' : World), SliceAt k (fun _ cs x => cs = enc x) w' s' l → Ext w0 w' → w.grownBy w' v.ownBlock → w'.ownsRow base e k (.slice s'.a s'.len s'.cap) l.length (l.flatMap enc) → K (a.put o.dst (.slice s'.a s'.len s'.cap)) w') : o.wp P a w K Q := by
  obtain ⟨s', w', hr, hsl, hE, hg, hw'⟩ := run_app_all (P := P) (w := w) t o.type e z k bytes ht hinfo hzs hsz hby enc hk h1 base v hown w0 hw0 hbase hv s l hs h0 hl
  unfold Oper.wp execOp
  simp only [ho, resolve, invoke, builtin, Sem.run_bind, Sem.run_pure, Result.andThen_ok, List.map_toArray, List.map_cons, List.map_nil, hd, hx, hr]
  exact h s' w' hsl hE hg hw'
end Go.Proofs.YtmghhakebhgckaaGreatDoor

namespace Go.Proofs.YtmghhakebhgckaaGreatDoor
set_option linter.unusedSimpArgs false
set_option linter.unusedVariables false
open Go.RowKit

def StrsAt (w : World) (s : SV) (l : List ByteArray) : Prop := SliceAt 1 (fun _ cs x => cs = [.string x]) w s l
theorem StrsAt.ext {w w' : World} {s : SV} {l : List ByteArray} (h : StrsAt w s l) (he : Ext w w') : StrsAt w' s l := SliceAt.ext h he fun _ _ h => h
theorem StrsAt.cell {w : World} {s : SV} {l : List ByteArray} (h : StrsAt w s l) {k : Nat} (hk : k < l.length) : ∃ b o, s.a = some ⟨b, o, none⟩ ∧ w.cell? ⟨b, o + k, none⟩ = some (.string l[k]) := by
  obtain ⟨b, o, cs, h1, h2, rfl⟩ := h.2 k l[k] (by simp [hk])
  have := range1 h2
  rw [Nat.mul_one] at this
  exact ⟨b, o, h1, this⟩

/-- slices.Contains on the first n of a list of texts. -/
theorem containsStr_any (s : SV) (l : List ByteArray) (n c : Nat) (x : ByteArray) (w : World) (hs : StrsAt w s l) (hn : n ≤ l.length) (hb : l.length ≤ 9223372036854775807) :
    Calls Tryz.prog 110 #[.slice s.a n c, .string x] w fun e w' => e = .returned (.bool (Lib.containsS (l.take n) x)) ∧ w' = w := by
  by_cases h0 : n = 0
  · subst h0
    exact (Tryz.slices_Contains_string_empty s.a c x w).mono fun e w' ⟨h1, h2⟩ => ⟨by rw [h1]; rfl, h2⟩
  · obtain ⟨b, o, ha, _⟩ := hs.cell (show 0 < l.length by omega)
    rw [ha]
    refine Tryz.slices_Contains_string b o n c l x w hn (by omega) fun j hj => ?_
    obtain ⟨b', o', ha', hc⟩ := hs.cell hj
    rw [ha] at ha'
    simp only [Option.some.injEq, Addr.mk.injEq] at ha'
    obtain ⟨rfl, rfl, _⟩ := ha'
    rw [hc]
    simp [List.getD, hj]

theorem containsInt_any (s : SV) (l : List Int) (x : Int) (w : World) (hs : IntsAt w s l) (hb : l.length ≤ 9223372036854775807) :
    Calls Tryz.prog 111 #[.slice s.a s.len s.cap, .int .i64 x] w fun e w' => e = .returned (.bool (l.contains x)) ∧ w' = w := by
  by_cases h0 : l.length = 0
  · have : l = [] := List.length_eq_zero_iff.1 h0
    subst this
    rw [hs.1]
    exact Tryz.slices_Contains_int_empty s.a s.cap x w
  · obtain ⟨b, o, ha, _⟩ := hs.cell (show 0 < l.length by omega)
    rw [ha, hs.1]
    have := Tryz.slices_Contains_int b o l.length s.cap l x w (Nat.le_refl _) (by omega) fun j hj => by
      obtain ⟨b', o', ha', hc⟩ := hs.cell hj
      rw [ha] at ha'
      simp only [Option.some.injEq, Addr.mk.injEq] at ha'
      obtain ⟨rfl, rfl, _⟩ := ha'
      rw [hc]
      simp [List.getD, hj]
    rwa [List.take_length] at this

def nameOkAt (l : List ByteArray) (i : Nat) : Bool := namedL (l.getD i ByteArray.empty).toList && !Lib.containsS (l.take i) (l.getD i ByteArray.empty)
def goodNamesL (l : List ByteArray) : Bool := (List.range l.length).all (nameOkAt l)

set_option maxHeartbeats 800000 in
theorem goodNames_any (s : SV) (l : List ByteArray) (w : World) (hs : StrsAt w s l) (hw : WordsAt w) (hn : l.length ≤ 9223372036854775807) (hc : s.len ≤ s.cap) (hsz : ∀ x ∈ l, x.size ≤ 9223372036854775807) :
    Calls Tryz.prog 84 #[.slice s.a s.len s.cap] w fun e w' => e = .returned (.bool (goodNamesL l)) ∧ Ext w w' := by
  obtain ⟨a, n, cap⟩ := s
  have hl := hs.1
  simp only at hl
  subst hl
  show Calls Tryz.prog 84 #[.slice a l.length cap] w _
  simp only at hc
  go_enter Tryz.func84, Tryz.ntmps84
  go_wp2
  go_loopw [7] (fun i wr => ∃ k : Nat, k ≤ l.length ∧ i = .int .i64 k ∧ AllTo (nameOkAt l) k ∧ Ext w wr) (fun i wr => l.length - (intOf i).toNat)
  case atStart => exact ⟨0, by omega, rfl, AllTo.zero _, Ext.refl w⟩
  case round =>
    obtain ⟨k, hk, rfl, hne, hx⟩ := hrel
    by_cases hlt : k < l.length
    · obtain ⟨b, o, rfl, h0⟩ := hs.cell hlt
      replace h0 := hx.cell h0
      have hwr := hw.ext hx
      have hsr := hs.ext hx
      have hkk : l.getD k ByteArray.empty = l[k] := by simp [List.getD, hlt]
      have hsk := hsz l[k] (List.getElem_mem hlt)
      cases hnm : namedL l[k].toList
      · have e : nameOkAt l k = false := by unfold nameOkAt; rw [hkk, hnm]; rfl
        have Hn : Hid (namedL l[k].toList = false) := hnm
        clear hnm hkk hsz hs
        go_wp2_with (go_at_call 18; refine (named_any _ _ hwr hsk).mono ?_; rintro e w' ⟨rfl, rfl⟩; rw [Hn.out])
        go_ret
        exact ⟨by rw [show goodNamesL l = false from not_all_range hlt e]; rfl, hx⟩
      · cases hct : Lib.containsS (l.take k) l[k]
        · have e : nameOkAt l k = true := by unfold nameOkAt; rw [hkk, hnm, hct]; rfl
          have Hn : Hid (namedL l[k].toList = true) := hnm
          have Hc : Hid (Lib.containsS (l.take k) l[k] = false) := hct
          clear hnm hkk hsz hs hct
          go_wp2_with (first | (go_at_call 18; refine (named_any _ _ hwr hsk).mono ?_; rintro e w' ⟨rfl, rfl⟩; rw [Hn.out]) | (go_at_call 110; refine (containsStr_any ⟨some ⟨b, o, none⟩, l.length, cap⟩ l k cap l[k] _ hsr (by omega) hn).mono ?_; rintro e w' ⟨rfl, rfl⟩; rw [Hc.out]))
          exact ⟨⟨k + 1, by omega, by go_num, hne.succ e, hx⟩, by simp [intOf]; omega⟩
        · have e : nameOkAt l k = false := by unfold nameOkAt; rw [hkk, hnm, hct]; rfl
          have Hn : Hid (namedL l[k].toList = true) := hnm
          have Hc : Hid (Lib.containsS (l.take k) l[k] = true) := hct
          clear hnm hkk hsz hs hct
          go_wp2_with (first | (go_at_call 18; refine (named_any _ _ hwr hsk).mono ?_; rintro e w' ⟨rfl, rfl⟩; rw [Hn.out]) | (go_at_call 110; refine (containsStr_any ⟨some ⟨b, o, none⟩, l.length, cap⟩ l k cap l[k] _ hsr (by omega) hn).mono ?_; rintro e w' ⟨rfl, rfl⟩; rw [Hc.out]))
          go_ret
          exact ⟨by rw [show goodNamesL l = false from not_all_range hlt e]; rfl, hx⟩
    · go_wp2
      go_ret
      exact ⟨by rw [show goodNamesL l = true from AllTo.all hne (by omega)]; rfl, hx⟩
end Go.Proofs.YtmghhakebhgckaaGreatDoor

namespace Go.Proofs.YtmghhakebhgckaaGreatDoor
set_option linter.unusedSimpArgs false
set_option linter.unusedVariables false
open Go.RowKit

def idsApartAt (ids gone : List Int) (i : Nat) : Bool := !gone.contains (ids.getD i 0)
def goodIdsL (ids gone : List Int) : Bool := risingL ids 1 30 && risingL gone 1 30 && (List.range ids.length).all (idsApartAt ids gone)

set_option maxHeartbeats 800000 in
theorem goodIds_any (s g : SV) (ids gone : List Int) (w : World) (hs : IntsAt w s ids) (hg : IntsAt w g gone) (hn : ids.length ≤ 9223372036854775807) (hm : gone.length ≤ 9223372036854775807) :
    Calls Tryz.prog 87 #[.slice s.a s.len s.cap, .slice g.a g.len g.cap] w fun e w' => e = .returned (.bool (goodIdsL ids gone)) ∧ Ext w w' := by
  obtain ⟨a, n, cap⟩ := s
  have hl := hs.1
  simp only at hl
  subst hl
  show Calls Tryz.prog 87 #[.slice a ids.length cap, .slice g.a g.len g.cap] w _
  cases h1 : risingL ids 1 30
  · have e : goodIdsL ids gone = false := by unfold goodIdsL; rw [h1]; rfl
    have H1 : Hid (risingL ids 1 30 = false) := h1
    rw [e]
    clear h1 e
    go_enter Tryz.func87, Tryz.ntmps87
    go_wp2_with fail
    refine (rising_any ⟨a, ids.length, cap⟩ ids 1 30 w hs hn).mono ?_
    rintro e w1 ⟨rfl, hx⟩
    rw [H1.out]
    go_wp2
    go_ret
    exact ⟨rfl, hx⟩
  cases h2 : risingL gone 1 30
  · have e : goodIdsL ids gone = false := by unfold goodIdsL; rw [h1, h2]; rfl
    have H1 : Hid (risingL ids 1 30 = true) := h1
    have H2 : Hid (risingL gone 1 30 = false) := h2
    rw [e]
    clear h1 h2 e
    go_enter Tryz.func87, Tryz.ntmps87
    go_wp2_with fail
    refine (rising_any ⟨a, ids.length, cap⟩ ids 1 30 w hs hn).mono ?_
    rintro e w1 ⟨rfl, hx⟩
    rw [H1.out]
    go_wp2_with fail
    refine (rising_any g gone 1 30 w1 (hg.ext hx) hm).mono ?_
    rintro e w2 ⟨rfl, hx2⟩
    rw [H2.out]
    go_wp2
    go_ret
    exact ⟨rfl, hx.trans hx2⟩
  have H1 : Hid (risingL ids 1 30 = true) := h1
  have H2 : Hid (risingL gone 1 30 = true) := h2
  have E : Hid (goodIdsL ids gone = (List.range ids.length).all (idsApartAt ids gone)) := by unfold Hid goodIdsL; rw [h1, h2]; rfl
  clear h1 h2
  go_enter Tryz.func87, Tryz.ntmps87
  go_wp2_with fail
  refine (rising_any ⟨a, ids.length, cap⟩ ids 1 30 w hs hn).mono ?_
  rintro e w1 ⟨rfl, hx⟩
  rw [H1.out]
  go_wp2_with fail
  refine (rising_any g gone 1 30 w1 (hg.ext hx) hm).mono ?_
  rintro e w2 ⟨rfl, hx2⟩
  rw [H2.out]
  go_wp2
  go_loopw [17] (fun i wr => ∃ k : Nat, k ≤ ids.length ∧ i = .int .i64 k ∧ AllTo (idsApartAt ids gone) k ∧ Ext w wr) (fun i wr => ids.length - (intOf i).toNat)
  case atStart => exact ⟨0, by omega, rfl, AllTo.zero _, hx.trans hx2⟩
  case round =>
    obtain ⟨k, hk, rfl, hne, hxr⟩ := hrel
    by_cases hlt : k < ids.length
    · obtain ⟨b, o, rfl, h0⟩ := hs.cell hlt
      replace h0 := hxr.cell h0
      have hgr := hg.ext hxr
      have hkk : ids.getD k 0 = ids[k] := by simp [List.getD, hlt]
      cases hct : gone.contains ids[k]
      · have e : idsApartAt ids gone k = true := by unfold idsApartAt; rw [hkk, hct]; rfl
        have Hc : Hid (gone.contains ids[k] = false) := hct
        clear hct hkk
        go_wp2_with (go_at_call 111; refine (containsInt_any g gone ids[k] _ hgr hm).mono ?_; rintro e w' ⟨rfl, rfl⟩; rw [Hc.out])
        exact ⟨⟨k + 1, by omega, by go_num, hne.succ e, hxr⟩, by simp [intOf]; omega⟩
      · have e : idsApartAt ids gone k = false := by unfold idsApartAt; rw [hkk, hct]; rfl
        have Hc : Hid (gone.contains ids[k] = true) := hct
        clear hct hkk
        go_wp2_with (go_at_call 111; refine (containsInt_any g gone ids[k] _ hgr hm).mono ?_; rintro e w' ⟨rfl, rfl⟩; rw [Hc.out])
        go_ret
        exact ⟨by rw [E.out, not_all_range hlt e]; rfl, hxr⟩
    · go_wp2
      go_ret
      exact ⟨by rw [E.out, AllTo.all hne (by omega)]; rfl, hxr⟩

theorem ret_bool {a b : Bool} (h : a = b) : Ending.returned (.bool a) = .returned (.bool b) := by rw [h]
theorem ret_int {k : IntKind} {a b : Int} (h : a = b) : Ending.returned (.int k a) = .returned (.int k b) := by rw [h]

def goodFieldM (b : BookM) (f : FieldM) : Bool :=
  if f.rule < 1 ∨ 3 < f.rule then false
  else if f.kind = 1 ∨ f.kind = 2 ∨ f.kind = 3 then f.type.toList.isEmpty
  else if f.kind = 4 ∨ f.kind = 5 then (match findM b f.type with | some t => t.enum == (f.kind == 4) | none => false)
  else false

set_option maxHeartbeats 800000 in
theorem goodField_any (s : SV) (ts : BookM) (f : FieldM) (w : World) (hs : BookAt w s ts) (hn : ts.length ≤ 9223372036854775807) :
    Calls Tryz.prog 86 #[.agg #[.slice s.a s.len s.cap], .agg #[.int .i64 f.id, .string f.name, .string f.type, .int .i64 f.kind, .int .i64 f.rule]] w fun e w' => e = .returned (.bool (goodFieldM ts f)) ∧ Ext w w' := by
  obtain ⟨fid, fname, ftype, fkind, frule⟩ := f
  show Calls Tryz.prog 86 #[.agg #[.slice s.a s.len s.cap], .agg #[.int .i64 fid, .string fname, .string ftype, .int .i64 fkind, .int .i64 frule]] w _
  by_cases h1 : frule < 1
  · have e : goodFieldM ts ⟨fid, fname, ftype, fkind, frule⟩ = false := by simp [goodFieldM, h1]
    rw [e]; clear e
    go_enter Tryz.func86, Tryz.ntmps86
    go_wp2
    go_ret
    exact ⟨rfl, ((Ext.refl w).alloc _).alloc _⟩
  by_cases h2 : 3 < frule
  · have e : goodFieldM ts ⟨fid, fname, ftype, fkind, frule⟩ = false := by simp [goodFieldM, h2]
    rw [e]; clear e
    go_enter Tryz.func86, Tryz.ntmps86
    go_wp2
    go_ret
    exact ⟨rfl, ((Ext.refl w).alloc _).alloc _⟩
  have hr : ¬ (frule < 1 ∨ 3 < frule) := by omega
  by_cases h3 : fkind = 1 ∨ fkind = 2 ∨ fkind = 3
  · have E : Hid (goodFieldM ts ⟨fid, fname, ftype, fkind, frule⟩ = (ftype.toList.isEmpty)) := by unfold Hid goodFieldM; simp only; rw [if_neg hr, if_pos h3]
    clear hr
    rcases h3 with h3 | h3 | h3
    all_goals
      subst h3
      go_enter Tryz.func86, Tryz.ntmps86
      go_wp2
      go_ret
      exact ⟨by rw [E.out]; rfl, ((Ext.refl w).alloc _).alloc _⟩
  by_cases h4 : fkind = 4 ∨ fkind = 5
  · have E : Hid (goodFieldM ts ⟨fid, fname, ftype, fkind, frule⟩ = (match findM ts ftype with | some t => t.enum == (fkind == 4) | none => false)) := by unfold Hid goodFieldM; simp only; rw [if_neg hr, if_neg h3, if_pos h4]
    clear hr h3
    have hs1 := hs.ext (((Ext.refl w).alloc (.cells #[.slice s.a s.len s.cap] 24)).alloc (.cells #[.int .i64 fid, .string fname, .string ftype, .int .i64 fkind, .int .i64 frule] 34))
    rcases h4 with h4 | h4
    all_goals
      subst h4
      go_enter Tryz.func86, Tryz.ntmps86
      go_wp2_with fail
      refine (lookUp_any s ts ftype _ hs1 hn).mono ?_
      rintro e w1 ⟨tv, rfl, htv, hx⟩
      have q3 := (hx.whole (heap_alloc2_new _ _ _)).1 3 _ rfl
      have hz : w.heap.size + 1 < w1.heap.size := by have := hx.size; simp at this; omega
      have hE : Ext w w1 := (((Ext.refl w).alloc _).alloc _).trans hx
      have hen := htv.enum
      cases hf : findM ts ftype with
      | none =>
        rw [hf] at hen
        have E' : Hid (goodFieldM ts _ = false) := E.out.trans (by rw [hf])
        clear hen htv E
        simp only [Option.isSome_none]
        go_wp2
        go_ret
        exact ⟨ret_bool (E'.out.trans (by cases tv.enum <;> rfl)).symm, hE.alloc _⟩
      | some t =>
        rw [hf] at hen
        simp only [Option.getD_some] at hen
        have E' : Hid (goodFieldM ts _ = (tv.enum == _)) := E.out.trans (by rw [hf, hen])
        clear hen htv E
        simp only [Option.isSome_some]
        go_wp2
        go_ret
        exact ⟨ret_bool (E'.out.trans (by cases tv.enum <;> rfl)).symm, hE.alloc _⟩
  · have e : goodFieldM ts ⟨fid, fname, ftype, fkind, frule⟩ = false := by unfold goodFieldM; simp only; rw [if_neg hr, if_neg h3, if_neg h4]
    rw [e]; clear e hr
    have k1 : (fkind == 1) = false := by simp; omega
    have k2 : (fkind == 2) = false := by simp; omega
    have k3 : (fkind == 3) = false := by simp; omega
    have k4 : (fkind == 4) = false := by simp; omega
    have k5 : (fkind == 5) = false := by simp; omega
    clear h3 h4
    go_enter Tryz.func86, Tryz.ntmps86
    go_wp2
    go_ret
    exact ⟨rfl, ((Ext.refl w).alloc _).alloc _⟩
end Go.Proofs.YtmghhakebhgckaaGreatDoor

namespace Go.Proofs.YtmghhakebhgckaaGreatDoor
set_option linter.unusedSimpArgs false
set_option linter.unusedVariables false
open Go.RowKit

theorem info9 : (Tryz.prog.info? 9).map (fun i => (i.zero, i.size, i.bytes)) = some (some (.string ⟨#[]⟩), 1, 16) := by kernel_rfl
theorem info3 : (Tryz.prog.info? 3).map (fun i => (i.zero, i.size, i.bytes)) = some (some (.int .i64 0), 1, 8) := by kernel_rfl

theorem flat_take {α β : Type} {l : List α} {k : Nat} (hk : k < l.length) (enc : α → List β) : (l.take (k + 1)).flatMap enc = (l.take k).flatMap enc ++ enc l[k] := by
  rw [List.take_succ_eq_append_getElem hk, List.flatMap_append]
  simp
theorem range_of_new1 (w : World) (u : Value) (t : TypeId) {g : Nat} (hg : g = w.heap.size) : (w.alloc (.cells #[u] t)).rangeAt g 0 [u] := fun j v hv => by
  subst hg
  match j, hv with
  | 0, hv => simp at hv; subst hv; simp
def encS (x : ByteArray) : List Value := [.string x]
def encI (x : Int) : List Value := [.int .i64 x]
theorem strs_of_owns {w : World} {base : Nat} {v : Value} {n : Nat} {l : List ByteArray} (h : w.ownsRow base 9 1 v n (l.flatMap encS)) (hn : n = l.length) : ∃ s : SV, v = .slice s.a s.len s.cap ∧ StrsAt w s l ∧ s.len ≤ s.cap := by
  obtain ⟨s, h1, h2⟩ := sliceAt_of_owns encS (fun _ => rfl) h hn
  refine ⟨s, h1, h2, ?_⟩
  rcases h.2 with ⟨rfl, h0⟩ | ⟨g, cap, cur, rfl, _, _, hc, _⟩
  · simp only [Value.slice.injEq] at h1; omega
  · simp only [Value.slice.injEq] at h1; omega
theorem ints_of_owns {w : World} {base : Nat} {v : Value} {n : Nat} {l : List Int} (h : w.ownsRow base 3 1 v n (l.flatMap encI)) (hn : n = l.length) : ∃ s : SV, v = .slice s.a s.len s.cap ∧ IntsAt w s l := sliceAt_of_owns encI (fun _ => rfl) h hn

def goodEnumM (t : TypeM) : Bool :=
  if 0 < t.fields.length ∨ 0 < t.gone.length then false
  else if t.items.length < 1 ∨ 6 < t.items.length then false
  else goodNamesL (t.items.map (·.name)) && risingL (t.items.map (·.n)) (-1099511627776) 1099511627776

set_option maxHeartbeats 1600000 in
theorem goodEnum_any (tv : TV) (t : TypeM) (w : World) (ht : TypeAt w tv t) (hw : WordsAt w) (hn : t.fields.length ≤ 9223372036854775807 ∧ t.gone.length ≤ 9223372036854775807 ∧ t.items.length ≤ 9223372036854775807) (hsz : ∀ x ∈ t.items, x.name.size ≤ 9223372036854775807) :
    Calls Tryz.prog 52 #[.agg #[.string tv.name, .bool tv.enum, .slice tv.fields.a tv.fields.len tv.fields.cap, .slice tv.gone.a tv.gone.len tv.gone.cap, .slice tv.items.a tv.items.len tv.items.cap]] w fun e w' => e = .returned (.bool (goodEnumM t)) ∧ Ext w w' := by
  obtain ⟨name, enum, ⟨fa, fn, fc⟩, ⟨ga, gn, gc⟩, ⟨ia, il, ic⟩⟩ := tv
  have hf := ht.fields.1
  have hg := ht.gone.1
  obtain ⟨hi, hts⟩ := ht.items
  simp only at hf hg hi
  subst hf hg hi
  obtain ⟨hn1, hn2, hn3⟩ := hn
  show Calls Tryz.prog 52 #[.agg #[.string name, .bool enum, .slice fa t.fields.length fc, .slice ga t.gone.length gc, .slice ia t.items.length ic]] w _
  by_cases h1 : 0 < t.fields.length
  · have e : goodEnumM t = false := by simp [goodEnumM, h1]
    rw [e]; clear e hts ht
    go_enter Tryz.func52, Tryz.ntmps52
    go_wp2
    go_ret
    exact ⟨rfl, (Ext.refl w).alloc _⟩
  by_cases h2 : 0 < t.gone.length
  · have e : goodEnumM t = false := by simp [goodEnumM, h2]
    rw [e]; clear e hts ht
    go_enter Tryz.func52, Tryz.ntmps52
    go_wp2
    go_ret
    exact ⟨rfl, (Ext.refl w).alloc _⟩
  by_cases h3 : t.items.length < 1
  · have e : goodEnumM t = false := by simp [goodEnumM, h3]
    rw [e]; clear e hts ht
    go_enter Tryz.func52, Tryz.ntmps52
    go_wp2
    go_ret
    exact ⟨rfl, (Ext.refl w).alloc _⟩
  by_cases h4 : 6 < t.items.length
  · have e : goodEnumM t = false := by simp [goodEnumM, h4]
    rw [e]; clear e hts ht
    go_enter Tryz.func52, Tryz.ntmps52
    go_wp2
    go_ret
    exact ⟨rfl, (Ext.refl w).alloc _⟩
  have E : Hid (goodEnumM t = (goodNamesL (t.items.map (·.name)) && risingL (t.items.map (·.n)) (-1099511627776) 1099511627776)) := by
    unfold Hid goodEnumM; rw [if_neg (by omega), if_neg (by omega)]
  clear ht
  go_enter Tryz.func52, Tryz.ntmps52
  go_wp2
  go_loopw [3, 4, 30] (fun vn vi i wr => ∃ k : Nat, k ≤ t.items.length ∧ i = .int .i64 k ∧ wr.ownsRow (w.heap.size + 1) 9 1 vn k (((t.items.map (·.name)).take k).flatMap encS) ∧ wr.ownsRow (w.heap.size + 1) 3 1 vi k (((t.items.map (·.n)).take k).flatMap encI) ∧ Ext (w.alloc (Obj.cells #[.string name, .bool enum, .slice fa t.fields.length fc, .slice ga t.gone.length gc, .slice ia t.items.length ic] 30)) wr) (fun vn vi i wr => t.items.length - (intOf i).toNat)
  case atStart => exact ⟨0, by omega, rfl, World.ownsRow_nil _ _ _ _, World.ownsRow_nil _ _ _ _, Ext.refl _⟩
  case round =>
    obtain ⟨k, hk, rfl, hon, hoi, hx⟩ := hrel
    have hE : Ext w wr := ((Ext.refl w).alloc _).trans hx
    have hzs : w.heap.size + 1 ≤ wr.heap.size := by have := hx.size; simp at this; omega
    by_cases hlt : k < t.items.length
    · obtain ⟨b, o, cs, rfl, hr, rfl⟩ := hts k t.items[k] (by simp [hlt])
      obtain ⟨c0, c1⟩ := range2 (hE.range hr)
      have hsk := hsz t.items[k] (List.getElem_mem hlt)
      clear hts hr hsz
      go_wp2_with (at_builtin; refine wpList_app1 _ _ 72 9 (.string ⟨#[]⟩) 1 16 Tryz.underlying72 info9 rfl (by decide) (by decide) rfl rfl (w.heap.size + 1) _ k _ rfl ((hon.alloc _).alloc _) (wr.heap.size + 1) 1 [.string t.items[k].name] rfl rfl ?c1 ?c2 ?c3 ?c4 ?_)
      case c1 => exact range_of_new1 _ _ _ (by simp)
      case c2 => intro u hu; simp at hu; subst hu; rfl
      case c3 => omega
      case c4 => simp; omega
      intro v1 w1 hon1 hg1
      have hon' := (hon.alloc (.cells #[.string t.items[k].name, .int .i64 t.items[k].n] 55)).alloc (.cells #[.string t.items[k].name] 9)
      have hoi' := (hoi.alloc (.cells #[.string t.items[k].name, .int .i64 t.items[k].n] 55)).alloc (.cells #[.string t.items[k].name] 9)
      have hoi1 := hoi'.kept hg1 (owns_apart hoi' hon' (by decide))
      have hx1 : Ext _ w1 := ((hx.alloc _).alloc _).owned hg1 hon' (by simp)
      have hc : w1.cell? ⟨wr.heap.size, 1, none⟩ = some (.int .i64 t.items[k].n) := hg1.cell (by simp) (by
        intro e
        have := (hon.lt _ e.symm).2
        simp at this)
      have hz1 : w.heap.size + 1 ≤ w1.heap.size := by have := hx1.size; simp at this; omega
      have Hon : Hid (w1.ownsRow (w.heap.size + 1) 9 1 v1 (k + 1) (((t.items.map (·.name)).take (k + 1)).flatMap encS)) := by
        unfold Hid
        rw [flat_take (by simpa using hlt)]
        simpa [encS] using hon1
      clear hon1 hon hoi hon' hoi' hg1 hx
      go_wp2_with (at_builtin; refine wpList_app1 _ _ 27 3 (.int .i64 0) 1 8 Tryz.underlying27 info3 rfl (by decide) (by decide) rfl rfl (w.heap.size + 1) _ k _ rfl (hoi1.alloc _) w1.heap.size 1 [.int .i64 t.items[k].n] rfl rfl ?c1 ?c2 ?c3 ?c4 ?_)
      case c1 => exact range_of_new1 _ _ _ (by simp)
      case c2 => intro u hu; simp at hu; subst hu; rfl
      case c3 => omega
      case c4 => simp; omega
      intro v2 w2 hoi2 hg2
      have hon2 := (Hon.out.alloc (.cells #[.int .i64 t.items[k].n] 3)).kept hg2 (owns_apart Hon.out hoi1 (by decide))
      have hx2 : Ext _ w2 := (hx1.alloc _).owned hg2 (hoi1.alloc _) (by simp)
      have Hoi : Hid (w2.ownsRow (w.heap.size + 1) 3 1 v2 (k + 1) (((t.items.map (·.n)).take (k + 1)).flatMap encI)) := by
        unfold Hid
        rw [flat_take (by simpa using hlt)]
        simpa [encI] using hoi2
      clear hoi2 hoi1 hg2
      go_wp2
      exact ⟨⟨k + 1, by omega, by go_num, hon2, Hoi.out, hx2⟩, by simp [intOf]; omega⟩
    · obtain rfl : k = t.items.length := by omega
      have e1 : (t.items.map (·.name)).take t.items.length = t.items.map (·.name) := by rw [List.take_of_length_le (by simp)]
      have e2 : (t.items.map (·.n)).take t.items.length = t.items.map (·.n) := by rw [List.take_of_length_le (by simp)]
      rw [e1] at hon
      rw [e2] at hoi
      obtain ⟨sn, rfl, hsn, hcn⟩ := strs_of_owns hon (by simp)
      obtain ⟨si, rfl, hsi⟩ := ints_of_owns hoi (by simp)
      have hwr := hw.ext hE
      clear hon hoi e1 e2 hts
      cases h5 : goodNamesL (t.items.map (·.name))
      · have H5 : Hid (goodNamesL (t.items.map (·.name)) = false) := h5
        clear h5
        go_wp2_with fail
        refine (goodNames_any sn _ wr hsn hwr (by simp; omega) hcn (fun x hx => ?_)).mono ?_
        · obtain ⟨y, hy, rfl⟩ := List.mem_map.1 hx
          have := hsz y hy
          omega
        rintro e w1 ⟨rfl, hx1⟩
        rw [H5.out]
        go_wp2
        go_ret
        exact ⟨ret_bool (E.out.trans (by rw [H5.out]; rfl)).symm, hE.trans hx1⟩
      · have H5 : Hid (goodNamesL (t.items.map (·.name)) = true) := h5
        clear h5
        go_wp2_with fail
        refine (goodNames_any sn _ wr hsn hwr (by simp; omega) hcn (fun x hx => ?_)).mono ?_
        · obtain ⟨y, hy, rfl⟩ := List.mem_map.1 hx
          have := hsz y hy
          omega
        rintro e w1 ⟨rfl, hx1⟩
        rw [H5.out]
        go_wp2_with fail
        refine (rising_any si _ _ _ w1 (hsi.ext hx1) (by simp; omega)).mono ?_
        rintro e w2 ⟨rfl, hx2⟩
        go_wp2
        go_ret
        exact ⟨ret_bool (E.out.trans (by rw [H5.out]; rfl)).symm, (hE.trans hx1).trans hx2⟩
end Go.Proofs.YtmghhakebhgckaaGreatDoor

namespace Go.Proofs.YtmghhakebhgckaaGreatDoor
set_option linter.unusedSimpArgs false
set_option linter.unusedVariables false
open Go.RowKit

def fieldOkAt (b : BookM) (l : List FieldM) (i : Nat) : Bool := goodFieldM b (l.getD i FieldM.zero)
def goodMessageM (b : BookM) (t : TypeM) : Bool :=
  if 0 < t.items.length ∨ 5 < t.fields.length then false
  else (List.range t.fields.length).all (fieldOkAt b t.fields) && (goodNamesL (t.fields.map (·.name)) && goodIdsL (t.fields.map (·.id)) t.gone)

/-- How large a type may be for the walks. -/
structure TypeM.Small (t : TypeM) : Prop where
  name : t.name.size ≤ 1048576
  fields : t.fields.length ≤ 1048576
  gone : t.gone.length ≤ 1048576
  items : t.items.length ≤ 1048576
  fname : ∀ x ∈ t.fields, x.name.size ≤ 1048576 ∧ x.type.size ≤ 1048576
  iname : ∀ x ∈ t.items, x.name.size ≤ 1048576
/-- How large a type can be at all. -/
structure TypeM.Fits (t : TypeM) : Prop where
  name : t.name.size ≤ 9223372036854775807
  fields : t.fields.length ≤ 9223372036854775807
  gone : t.gone.length ≤ 9223372036854775807
  items : t.items.length ≤ 9223372036854775807
  fname : ∀ x ∈ t.fields, x.name.size ≤ 9223372036854775807 ∧ x.type.size ≤ 9223372036854775807
  iname : ∀ x ∈ t.items, x.name.size ≤ 9223372036854775807
theorem TypeM.Small.fits {t : TypeM} (h : t.Small) : t.Fits :=
  ⟨Nat.le_trans h.name (by decide), Nat.le_trans h.fields (by decide), Nat.le_trans h.gone (by decide), Nat.le_trans h.items (by decide), fun x hx => ⟨Nat.le_trans (h.fname x hx).1 (by decide), Nat.le_trans (h.fname x hx).2 (by decide)⟩, fun x hx => Nat.le_trans (h.iname x hx) (by decide)⟩

set_option maxHeartbeats 1600000 in
theorem goodMessage_any (s : SV) (ts : BookM) (tv : TV) (t : TypeM) (w : World) (hs : BookAt w s ts) (ht : TypeAt w tv t) (hw : WordsAt w) (hm : ts.length ≤ 9223372036854775807) (hn : t.Fits) :
    Calls Tryz.prog 53 #[.agg #[.slice s.a s.len s.cap], .agg #[.string tv.name, .bool tv.enum, .slice tv.fields.a tv.fields.len tv.fields.cap, .slice tv.gone.a tv.gone.len tv.gone.cap, .slice tv.items.a tv.items.len tv.items.cap]] w fun e w' => e = .returned (.bool (goodMessageM ts t)) ∧ Ext w w' := by
  obtain ⟨name, enum, ⟨fa, fn, fc⟩, ⟨ga, gn, gc⟩, ⟨ia, il, ic⟩⟩ := tv
  obtain ⟨hf, hts⟩ := ht.fields
  have hg := ht.gone
  have hgl := ht.gone.1
  have hi := ht.items.1
  simp only at hf hgl hi
  subst hf hgl hi
  have hn1 := hn.fields
  have hn2 := hn.gone
  have hn3 := hn.items
  have hsz := hn.fname
  show Calls Tryz.prog 53 #[.agg #[.slice s.a s.len s.cap], .agg #[.string name, .bool enum, .slice fa t.fields.length fc, .slice ga t.gone.length gc, .slice ia t.items.length ic]] w _
  by_cases h1 : 0 < t.items.length
  · have e : goodMessageM ts t = false := by simp [goodMessageM, h1]
    rw [e]; clear e hts ht hsz hg hn
    go_enter Tryz.func53, Tryz.ntmps53
    go_wp2
    go_ret
    exact ⟨rfl, ((Ext.refl w).alloc _).alloc _⟩
  by_cases h2 : 5 < t.fields.length
  · have e : goodMessageM ts t = false := by simp [goodMessageM, h2]
    rw [e]; clear e hts ht hsz hg hn
    go_enter Tryz.func53, Tryz.ntmps53
    go_wp2
    go_ret
    exact ⟨rfl, ((Ext.refl w).alloc _).alloc _⟩
  have E : Hid (goodMessageM ts t = ((List.range t.fields.length).all (fieldOkAt ts t.fields) && (goodNamesL (t.fields.map (·.name)) && goodIdsL (t.fields.map (·.id)) t.gone))) := by
    unfold Hid goodMessageM; rw [if_neg (by omega)]
  clear ht hn
  go_enter Tryz.func53, Tryz.ntmps53
  go_wp2
  go_loopw [5, 6, 22] (fun vn vi i wr => ∃ k : Nat, k ≤ t.fields.length ∧ i = .int .i64 k ∧ AllTo (fieldOkAt ts t.fields) k ∧ wr.ownsRow (w.heap.size + 2) 9 1 vn k (((t.fields.map (·.name)).take k).flatMap encS) ∧ wr.ownsRow (w.heap.size + 2) 3 1 vi k (((t.fields.map (·.id)).take k).flatMap encI) ∧ Ext ((w.alloc (Obj.cells #[.slice s.a s.len s.cap] 24)).alloc (Obj.cells #[.string name, .bool enum, .slice fa t.fields.length fc, .slice ga t.gone.length gc, .slice ia t.items.length ic] 30)) wr) (fun vn vi i wr => t.fields.length - (intOf i).toNat)
  case atStart => exact ⟨0, by omega, rfl, AllTo.zero _, World.ownsRow_nil _ _ _ _, World.ownsRow_nil _ _ _ _, Ext.refl _⟩
  case round =>
    obtain ⟨k, hk, rfl, hne, hon, hoi, hx⟩ := hrel
    have hE : Ext w wr := (((Ext.refl w).alloc _).alloc _).trans hx
    have hzs : w.heap.size + 1 < wr.heap.size := by have := hx.size; simp at this; omega
    by_cases hlt : k < t.fields.length
    · obtain ⟨b, o, cs, rfl, hr, rfl⟩ := hts k t.fields[k] (by simp [hlt])
      obtain ⟨c0, c1, c2, c3, c4⟩ := range5 (hE.range hr)
      have q0 := (hx.whole (heap_alloc2_old _ _ _)).1 0 (.slice s.a s.len s.cap) rfl
      have hzz : w.heap.size < wr.heap.size := by omega
      have hsk := hsz t.fields[k] (List.getElem_mem hlt)
      have hs1 := hs.ext (hE.alloc (.cells #[.int .i64 t.fields[k].id, .string t.fields[k].name, .string t.fields[k].type, .int .i64 t.fields[k].kind, .int .i64 t.fields[k].rule] 34))
      have hkk : t.fields.getD k FieldM.zero = t.fields[k] := by simp [List.getD, hlt]
      clear hts hr hsz
      cases hok : goodFieldM ts t.fields[k]
      · have e : fieldOkAt ts t.fields k = false := by unfold fieldOkAt; rw [hkk, hok]
        have Hok : Hid (goodFieldM ts t.fields[k] = false) := hok
        clear hok hkk hon hoi
        go_wp2_with fail
        refine (goodField_any s ts t.fields[k] _ hs1 (by omega)).mono ?_
        rintro e' w1 ⟨rfl, hx1⟩
        rw [Hok.out]
        go_wp2
        go_ret
        exact ⟨ret_bool (E.out.trans (by rw [not_all_range hlt e]; rfl)).symm, (hE.alloc _).trans hx1⟩
      have e : fieldOkAt ts t.fields k = true := by unfold fieldOkAt; rw [hkk, hok]
      have Hok : Hid (goodFieldM ts t.fields[k] = true) := hok
      clear hok hkk
      go_wp2_with fail
      refine (goodField_any s ts t.fields[k] _ hs1 (by omega)).mono ?_
      rintro e' w0 ⟨rfl, hx0⟩
      rw [Hok.out]
      obtain ⟨p, pf⟩ := hx0.whole (heap_alloc_new _ _)
      have p0 := p 0 (.int .i64 t.fields[k].id) rfl
      have p1 := p 1 (.string t.fields[k].name) rfl
      have hz0 : wr.heap.size < w0.heap.size := by have := hx0.size; simp at this; omega
      have hB0 : Below (wr.heap.size + 1) (wr.alloc (.cells #[.int .i64 t.fields[k].id, .string t.fields[k].name, .string t.fields[k].type, .int .i64 t.fields[k].kind, .int .i64 t.fields[k].rule] 34)) w0 := hx0.mono (by simp)
      clear p pf
      have hon0 := owns_ext (hon.alloc (.cells #[.int .i64 t.fields[k].id, .string t.fields[k].name, .string t.fields[k].type, .int .i64 t.fields[k].kind, .int .i64 t.fields[k].rule] 34)) hx0
      have hoi0 := owns_ext (hoi.alloc (.cells #[.int .i64 t.fields[k].id, .string t.fields[k].name, .string t.fields[k].type, .int .i64 t.fields[k].kind, .int .i64 t.fields[k].rule] 34)) hx0
      have hxx0 : Ext _ w0 := (hx.alloc _).trans hx0
      have hzw : w.heap.size + 2 ≤ w0.heap.size := by omega
      have HB : ∀ j, u5.ownBlock = some j → j < wr.heap.size := fun j hj => (hon.lt j hj).2
      clear hon hoi hx hx0 hB0 hs1 q0 c0 c1 c2 c3 c4
      go_wp2_with (at_builtin; refine wpList_app1 _ _ 72 9 (.string ⟨#[]⟩) 1 16 Tryz.underlying72 info9 rfl (by decide) (by decide) rfl rfl (w.heap.size + 2) _ k _ rfl (hon0.alloc _) w0.heap.size 1 [.string t.fields[k].name] rfl rfl ?c1 ?c2 ?c3 ?c4 ?_)
      case c1 => exact range_of_new1 _ _ _ (by simp)
      case c2 => intro u hu; simp at hu; subst hu; rfl
      case c3 => omega
      case c4 => simp; omega
      intro v1 w1 hon1 hg1
      have hoi1 := (hoi0.alloc (.cells #[.string t.fields[k].name] 9)).kept hg1 (owns_apart hoi0 hon0 (by decide))
      have hx1 : Ext _ w1 := (hxx0.alloc _).owned hg1 (hon0.alloc _) (by simp)
      have hc : w1.cell? ⟨wr.heap.size, 0, none⟩ = some (.int .i64 t.fields[k].id) := hg1.cell (by rw [World.cell?_alloc_lt _ _ _ hz0]; exact p0) (by
        intro e
        exact absurd (show wr.heap.size < wr.heap.size from HB _ e.symm) (by omega))
      have hz1 : w.heap.size + 2 ≤ w1.heap.size := by have := hx1.size; simp at this; omega
      have Hon : Hid (w1.ownsRow (w.heap.size + 2) 9 1 v1 (k + 1) (((t.fields.map (·.name)).take (k + 1)).flatMap encS)) := by
        unfold Hid
        rw [flat_take (by simpa using hlt)]
        simpa [encS] using hon1
      clear hon1 hon0 hoi0 hg1 hxx0
      go_wp2_with (at_builtin; refine wpList_app1 _ _ 27 3 (.int .i64 0) 1 8 Tryz.underlying27 info3 rfl (by decide) (by decide) rfl rfl (w.heap.size + 2) _ k _ rfl (hoi1.alloc _) w1.heap.size 1 [.int .i64 t.fields[k].id] rfl rfl ?c1 ?c2 ?c3 ?c4 ?_)
      case c1 => exact range_of_new1 _ _ _ (by simp)
      case c2 => intro u hu; simp at hu; subst hu; rfl
      case c3 => omega
      case c4 => simp; omega
      intro v2 w2 hoi2 hg2
      have hon2 := (Hon.out.alloc (.cells #[.int .i64 t.fields[k].id] 3)).kept hg2 (owns_apart Hon.out hoi1 (by decide))
      have hx2 : Ext _ w2 := (hx1.alloc _).owned hg2 (hoi1.alloc _) (by simp)
      have Hoi : Hid (w2.ownsRow (w.heap.size + 2) 3 1 v2 (k + 1) (((t.fields.map (·.id)).take (k + 1)).flatMap encI)) := by
        unfold Hid
        rw [flat_take (by simpa using hlt)]
        simpa [encI] using hoi2
      clear hoi2 hoi1 hg2
      go_wp2
      exact ⟨⟨k + 1, by omega, by go_num, hne.succ e, hon2, Hoi.out, hx2⟩, by simp [intOf]; omega⟩
    · obtain rfl : k = t.fields.length := by omega
      have e1 : (t.fields.map (·.name)).take t.fields.length = t.fields.map (·.name) := by rw [List.take_of_length_le (by simp)]
      have e2 : (t.fields.map (·.id)).take t.fields.length = t.fields.map (·.id) := by rw [List.take_of_length_le (by simp)]
      rw [e1] at hon
      rw [e2] at hoi
      obtain ⟨sn, rfl, hsn, hcn⟩ := strs_of_owns hon (by simp)
      obtain ⟨si, rfl, hsi⟩ := ints_of_owns hoi (by simp)
      have hwr := hw.ext hE
      have E2 : Hid (goodMessageM ts t = (goodNamesL (t.fields.map (·.name)) && goodIdsL (t.fields.map (·.id)) t.gone)) := E.out.trans (by rw [AllTo.all hne (by omega)]; rfl)
      have q3 := (hx.whole (heap_alloc2_new _ _ _)).1 3 (.slice ga t.gone.length gc) rfl
      clear hon hoi e1 e2 hts E hne
      cases h5 : goodNamesL (t.fields.map (·.name))
      · have H5 : Hid (goodNamesL (t.fields.map (·.name)) = false) := h5
        clear h5
        go_wp2_with fail
        refine (goodNames_any sn _ wr hsn hwr (by simp; omega) hcn (fun x hx => ?_)).mono ?_
        · obtain ⟨y, hy, rfl⟩ := List.mem_map.1 hx
          have := (hsz y hy).1
          omega
        rintro e w1 ⟨rfl, hx1⟩
        rw [H5.out]
        go_wp2
        go_ret
        exact ⟨ret_bool (E2.out.trans (by rw [H5.out]; rfl)).symm, hE.trans hx1⟩
      · have H5 : Hid (goodNamesL (t.fields.map (·.name)) = true) := h5
        clear h5
        go_wp2_with fail
        refine (goodNames_any sn _ wr hsn hwr (by simp; omega) hcn (fun x hx => ?_)).mono ?_
        · obtain ⟨y, hy, rfl⟩ := List.mem_map.1 hx
          have := (hsz y hy).1
          omega
        rintro e w1 ⟨rfl, hx1⟩
        rw [H5.out]
        have q3' := hx1.cell q3
        have hg1 := hg.ext (hE.trans hx1)
        go_wp2_with fail
        refine (goodIds_any si ⟨ga, t.gone.length, gc⟩ _ t.gone w1 (hsi.ext hx1) hg1 (by simp; omega) (by omega)).mono ?_
        rintro e w2 ⟨rfl, hx2⟩
        go_wp2
        go_ret
        exact ⟨ret_bool (E2.out.trans (by rw [H5.out]; rfl)).symm, (hE.trans hx1).trans hx2⟩
end Go.Proofs.YtmghhakebhgckaaGreatDoor

namespace Go.Proofs.YtmghhakebhgckaaGreatDoor
set_option linter.unusedSimpArgs false
set_option linter.unusedVariables false
open Go.RowKit

def BookM.Small (ts : BookM) : Prop := ts.length ≤ 1048576 ∧ ∀ t ∈ ts, t.Small
def BookM.Fits (ts : BookM) : Prop := ts.length ≤ 9223372036854775807 ∧ ∀ t ∈ ts, t.Fits
theorem BookM.Small.fits {ts : BookM} (h : ts.Small) : ts.Fits := ⟨Nat.le_trans h.1 (by decide), fun t ht => (h.2 t ht).fits⟩
theorem findM_mem {ts : BookM} {name : ByteArray} {t : TypeM} (h : findM ts name = some t) : t ∈ ts := List.mem_of_find?_eq_some h

def goodTypeM (b : BookM) (t : TypeM) : Bool := namedL t.name.toList && (if t.enum then goodEnumM t else goodMessageM b t)

set_option maxHeartbeats 1600000 in
theorem goodType_any (s : SV) (ts : BookM) (tv : TV) (t : TypeM) (w : World) (hs : BookAt w s ts) (ht : TypeAt w tv t) (hw : WordsAt w) (hm : ts.length ≤ 9223372036854775807) (hn : t.Fits) :
    Calls Tryz.prog 34 #[.agg #[.slice s.a s.len s.cap], .agg #[.string tv.name, .bool tv.enum, .slice tv.fields.a tv.fields.len tv.fields.cap, .slice tv.gone.a tv.gone.len tv.gone.cap, .slice tv.items.a tv.items.len tv.items.cap]] w fun e w' => e = .returned (.bool (goodTypeM ts t)) ∧ Ext w w' := by
  have hsn := hn.name
  rw [← ht.name] at hsn
  have E : Hid (goodTypeM ts t = (namedL tv.name.toList && (if tv.enum then goodEnumM t else goodMessageM ts t))) := by
    unfold Hid goodTypeM; rw [ht.name, ht.enum]
  have Ht : Hid (TypeAt w tv t) := ht
  have Hn : Hid t.Fits := hn
  clear ht hn
  obtain ⟨name, enum, fs, gs, is⟩ := tv
  simp only at E hsn
  have hx0 : Ext w ((w.alloc (.cells #[.slice s.a s.len s.cap] 24)).alloc (.cells #[.string name, .bool enum, .slice fs.a fs.len fs.cap, .slice gs.a gs.len gs.cap, .slice is.a is.len is.cap] 30)) := ((Ext.refl w).alloc _).alloc _
  show Calls Tryz.prog 34 #[.agg #[.slice s.a s.len s.cap], .agg #[.string name, .bool enum, .slice fs.a fs.len fs.cap, .slice gs.a gs.len gs.cap, .slice is.a is.len is.cap]] w _
  cases h1 : namedL name.toList
  · have H1 : Hid (namedL name.toList = false) := h1
    clear h1
    go_enter Tryz.func34, Tryz.ntmps34
    go_wp2_with fail
    refine (named_any name _ (hw.ext hx0) (by omega)).mono ?_
    rintro e w1 ⟨rfl, rfl⟩
    rw [H1.out]
    go_wp2
    go_ret
    exact ⟨ret_bool (E.out.trans (by rw [H1.out]; rfl)).symm, hx0⟩
  have H1 : Hid (namedL name.toList = true) := h1
  clear h1
  cases enum
  · have E2 : Hid (goodTypeM ts t = goodMessageM ts t) := E.out.trans (by rw [H1.out]; rfl)
    clear E
    go_enter Tryz.func34, Tryz.ntmps34
    go_wp2_with fail
    refine (named_any name _ (hw.ext hx0) (by omega)).mono ?_
    rintro e w1 ⟨rfl, rfl⟩
    rw [H1.out]
    go_wp2_with fail
    refine (goodMessage_any s ts ⟨name, false, fs, gs, is⟩ t _ (hs.ext hx0) (Ht.out.ext hx0) (hw.ext hx0) hm Hn.out).mono ?_
    rintro e w2 ⟨rfl, hx2⟩
    go_wp2
    go_ret
    exact ⟨ret_bool E2.out.symm, hx0.trans hx2⟩
  · have E2 : Hid (goodTypeM ts t = goodEnumM t) := E.out.trans (by rw [H1.out]; rfl)
    clear E
    go_enter Tryz.func34, Tryz.ntmps34
    go_wp2_with fail
    refine (named_any name _ (hw.ext hx0) (by omega)).mono ?_
    rintro e w1 ⟨rfl, rfl⟩
    rw [H1.out]
    go_wp2_with fail
    refine (goodEnum_any ⟨name, true, fs, gs, is⟩ t _ (Ht.out.ext hx0) (hw.ext hx0) ⟨Hn.out.fields, Hn.out.gone, Hn.out.items⟩ Hn.out.iname).mono ?_
    rintro e w2 ⟨rfl, hx2⟩
    go_wp2
    go_ret
    exact ⟨ret_bool E2.out.symm, hx0.trans hx2⟩

def goodLeastB (n : Int) : Bool := decide (1 ≤ n) && decide (n ≤ 12)
set_option maxHeartbeats 400000 in
theorem goodLeast_any (n : Int) (w : World) : Calls Tryz.prog 35 #[.int .i64 n] w fun e w' => e = .returned (.bool (goodLeastB n)) ∧ w' = w := by
  unfold goodLeastB
  go_enter Tryz.func35, Tryz.ntmps35
  go_wp2
  all_goals
    go_ret
    rename_i h
    exact ⟨by simp [h]; try omega, rfl⟩

def leastFold (g : FieldM → Int) : List FieldM → Int → Int
  | [], acc => acc
  | f :: r, acc => if (f.rule == 1) = false then leastFold g r acc else if g f = 0 then 0 else leastFold g r (acc + g f)
def leastM (b : BookM) : Nat → ByteArray → Int
  | 0, _ => 0
  | n + 1, name => match findM b name with
    | none => 0
    | some t => if t.enum = true ∨ 5 < t.fields.length then 0 else leastFold (fun f => if f.kind = 5 then leastM b n f.type else 1) t.fields 1
def needM (b : BookM) (n : Nat) (f : FieldM) : Int := if f.kind = 5 then leastM b n f.type else 1

theorem leastFold_bd (g : FieldM → Int) (M : Int) (hM : 0 ≤ M) (hg : ∀ f, 0 ≤ g f ∧ g f ≤ M) : ∀ (l : List FieldM) (acc : Int), 0 ≤ acc → 0 ≤ leastFold g l acc ∧ leastFold g l acc ≤ acc + l.length * M
  | [], acc, h => by simp [leastFold, h]
  | f :: r, acc, h => by
    have hh := hg f
    have e : ((f :: r).length : Int) * M = r.length * M + M := by simp [Int.add_mul]
    have hr : 0 ≤ (r.length : Int) * M := Int.mul_nonneg (by omega) hM
    unfold leastFold
    split
    · have := leastFold_bd g M hM hg r acc h; omega
    · split
      · omega
      · have := leastFold_bd g M hM hg r (acc + g f) (by omega); omega
theorem leastM_bd (b : BookM) : ∀ (n : Nat) (name : ByteArray), 0 ≤ leastM b n name ∧ leastM b n name ≤ 6 ^ n
  | 0, _ => by simp [leastM]
  | n + 1, name => by
    have hp : (1 : Int) ≤ 6 ^ n := Int.pow_pos (by decide)
    have e6 : (6 : Int) ^ (n + 1) = 6 * 6 ^ n := by rw [Int.pow_succ]; omega
    unfold leastM
    split
    · omega
    · rename_i t _
      split
      · omega
      · rename_i h
        have h5 : t.fields.length ≤ 5 := by omega
        have := leastFold_bd (fun f => if f.kind = 5 then leastM b n f.type else 1) (6 ^ n) (by omega) (fun f => by
          split
          · exact leastM_bd b n f.type
          · omega) t.fields 1 (by omega)
        have hm : (t.fields.length : Int) * 6 ^ n ≤ 5 * 6 ^ n := Int.mul_le_mul_of_nonneg_right (by omega) (by omega)
        omega
theorem needM_bd (b : BookM) (n : Nat) (hn : n ≤ 4) (f : FieldM) : 0 ≤ needM b n f ∧ needM b n f ≤ 1296 := by
  have h := leastM_bd b n f.type
  have : (6 : Int) ^ n ≤ 1296 := by
    have : n = 0 ∨ n = 1 ∨ n = 2 ∨ n = 3 ∨ n = 4 := by omega
    rcases this with rfl | rfl | rfl | rfl | rfl <;> decide
  unfold needM
  split <;> omega
end Go.Proofs.YtmghhakebhgckaaGreatDoor

namespace Go.Proofs.YtmghhakebhgckaaGreatDoor
set_option linter.unusedSimpArgs false
set_option linter.unusedVariables false
open Go.RowKit

theorem hide {p : Prop} (h : p) : Hid p := h
theorem unhide {p : Prop} (h : Hid p) : p := h
theorem leastFold_drop {g : FieldM → Int} {l : List FieldM} {k : Nat} {acc : Int} (hk : k < l.length) :
    leastFold g (l.drop k) acc = if (l[k].rule == 1) = false then leastFold g (l.drop (k + 1)) acc else if g l[k] = 0 then 0 else leastFold g (l.drop (k + 1)) (acc + g l[k]) := by
  rw [List.drop_eq_getElem_cons hk]; rfl

set_option maxHeartbeats 3200000 in
theorem leastWithin_any (s : SV) (ts : BookM) (hn : ts.Fits) (n : Nat) : n ≤ 4 → ∀ (m : Int), m = n → ∀ (name : ByteArray) (w : World), BookAt w s ts →
    Calls Tryz.prog 40 #[.agg #[.slice s.a s.len s.cap], .string name, .int .i64 m] w fun e w' => e = .returned (.int .i64 (leastM ts n name)) ∧ Ext w w' := by
  induction n with
  | zero =>
    intro _ m hm name w hs
    have hm0 : m < 1 := by omega
    clear hm
    go_enter Tryz.func40, Tryz.ntmps40
    go_wp2
    go_ret
    exact ⟨rfl, (Ext.refl w).alloc _⟩
  | succ n ih =>
    intro hn4 m hm name w hs
    have IH : Hid (∀ (m : Int), m = n → ∀ (name : ByteArray) (w : World), BookAt w s ts →
      Calls Tryz.prog 40 #[.agg #[.slice s.a s.len s.cap], .string name, .int .i64 m] w fun e w' => e = .returned (.int .i64 (leastM ts n name)) ∧ Ext w w') := ih (by omega)
    clear ih
    have Hm : Hid (m - 1 = n) := by unfold Hid; omega
    have hm1 : 1 ≤ m := by omega
    have hm4 : m ≤ 4 := by omega
    have hlen := hn.1
    have hx0 : Ext w (w.alloc (.cells #[.slice s.a s.len s.cap] 24)) := (Ext.refl w).alloc _
    clear hm
    go_enter Tryz.func40, Tryz.ntmps40
    go_wp2_with fail
    refine (lookUp_any s ts name _ (hs.ext hx0) (by omega)).mono ?_
    rintro e w1 ⟨tv, rfl, htv, hx1⟩
    have q0 := (hx1.whole (heap_alloc_new _ _)).1 0 (.slice s.a s.len s.cap) rfl
    have hz0 : w.heap.size < w1.heap.size := by have := hx1.size; simp at this; omega
    have hE1 : Ext w w1 := hx0.trans hx1
    cases hf : findM ts name with
    | none =>
      have E : Hid (leastM ts (n + 1) name = 0) := by simp [Hid, leastM, hf]
      clear htv
      simp only [Option.isSome_none]
      go_wp2
      go_ret
      exact ⟨ret_int E.out.symm, hE1.alloc _⟩
    | some t =>
      rw [hf] at htv
      simp only [Option.getD_some] at htv
      simp only [Option.isSome_some]
      have hT := hn.2 t (findM_mem hf)
      have hT1 := hT.fields
      obtain ⟨nm, en, ⟨fa, fl, fc⟩, gs, is⟩ := tv
      have een := htv.enum
      have hfa := htv.fields
      have efl := htv.fields.1
      simp only at een hfa efl
      subst efl
      cases en
      · have een' : t.enum = false := een.symm
        clear een
        by_cases h5 : 5 < t.fields.length
        · have E : Hid (leastM ts (n + 1) name = 0) := by simp [Hid, leastM, hf, h5]
          clear htv hfa een' hf hT
          go_wp2
          go_ret
          exact ⟨ret_int E.out.symm, hE1.alloc _⟩
        have E : Hid (leastM ts (n + 1) name = leastFold (needM ts n) t.fields 1) := by
          unfold Hid leastM
          rw [hf]
          simp only [een']
          rw [if_neg (by simp; omega)]
          rfl
        clear htv een' hf hT
        go_wp2
        go_loopw [9, 36] (fun sm i wr => ∃ (k : Nat) (acc : Int), k ≤ t.fields.length ∧ i = .int .i64 k ∧ sm = .int .i64 acc ∧ 0 ≤ acc ∧ acc ≤ 1 + k * 1296 ∧ leastFold (needM ts n) t.fields 1 = leastFold (needM ts n) (t.fields.drop k) acc ∧ Ext w1 wr) (fun sm i wr => t.fields.length - (intOf i).toNat)
        case atStart => exact ⟨0, 1, by omega, rfl, rfl, by omega, by omega, rfl, (Ext.refl _).alloc _⟩
        case round =>
          obtain ⟨k, acc, hk, rfl, rfl, ha0, ha1, hfold, hx⟩ := hrel
          have Hfold : Hid (leastFold (needM ts n) t.fields 1 = leastFold (needM ts n) (t.fields.drop k) acc) := hfold
          clear hfold
          have hE : Ext w wr := hE1.trans hx
          have q0' := hx.cell q0
          have hz : w.heap.size < wr.heap.size := by have := hx.size; omega
          by_cases hlt : k < t.fields.length
          · obtain ⟨b, o, cs, efa, hr, rfl⟩ := hfa.2 k t.fields[k] (by simp [hlt])
            simp only at efa
            subst efa
            obtain ⟨c0, c1, c2, c3, c4⟩ := range5 (hx.range (hx1.range hr))
            have Hd := hide (leastFold_drop (g := needM ts n) (acc := acc) hlt)
            clear hfa hr
            cases hrule : (t.fields[k].rule == 1)
            · have hrule' : (t.fields[k].rule != 1) = true := by simp [bne, hrule]
              have Hr : Hid ((t.fields[k].rule == 1) = false) := hrule
              clear hrule
              go_wp2
              exact ⟨⟨k + 1, acc, by omega, by go_num, rfl, ha0, by omega, by rw [Hfold.out, unhide Hd, if_pos Hr.out], hx.alloc _⟩, by simp [intOf]; omega⟩
            have hrule' : (t.fields[k].rule != 1) = false := by simp [bne, hrule]
            have Hr : Hid ((t.fields[k].rule == 1) = true) := hrule
            clear hrule
            have hbd := needM_bd ts n (by omega) t.fields[k]
            cases hkind : (t.fields[k].kind == 5)
            · have Hnd : Hid (needM ts n t.fields[k] = 1) := by
                unfold Hid needM; rw [if_neg (by simpa using hkind)]
              clear hbd
              go_wp2
              exact ⟨⟨k + 1, acc + 1, by omega, by go_num, rfl, by omega, by omega, by rw [Hfold.out, unhide Hd, if_neg (by rw [Hr.out]; simp), Hnd.out, if_neg (by omega)], hx.alloc _⟩, by simp [intOf]; omega⟩
            · have Hnd : Hid (needM ts n t.fields[k] = leastM ts n t.fields[k].type) := by
                unfold Hid needM; rw [if_pos (by simpa using hkind)]
              rw [Hnd.out] at hbd
              have hsr := hs.ext (hE.alloc (.cells #[.int .i64 t.fields[k].id, .string t.fields[k].name, .string t.fields[k].type, .int .i64 t.fields[k].kind, .int .i64 t.fields[k].rule] 34))
              go_wp2_with fail
              refine (IH.out (m - 1) Hm.out t.fields[k].type _ hsr).mono ?_
              rintro e w2 ⟨rfl, hx2⟩
              have hEw : Ext w1 w2 := (hx.alloc _).trans hx2
              cases hv : (leastM ts n t.fields[k].type == 0)
              · have Hv : Hid ((leastM ts n t.fields[k].type == 0) = false) := hv
                go_wp2
                exact ⟨⟨k + 1, acc + leastM ts n t.fields[k].type, by omega, by go_num, rfl, by omega, by omega, by rw [Hfold.out, unhide Hd, if_neg (by rw [Hr.out]; simp), Hnd.out, if_neg (by simpa using Hv.out)], hEw⟩, by simp [intOf]; omega⟩
              · have Hv : Hid ((leastM ts n t.fields[k].type == 0) = true) := hv
                go_wp2
                go_ret
                refine ⟨ret_int ?_, hE1.trans hEw⟩
                rw [E.out, Hfold.out, unhide Hd, if_neg (by rw [Hr.out]; simp), Hnd.out, if_pos (by simpa using Hv.out)]
          · go_wp2
            go_ret
            refine ⟨ret_int ?_, hE⟩
            rw [E.out, Hfold.out, List.drop_of_length_le (by omega)]
            rfl
      · have E : Hid (leastM ts (n + 1) name = 0) := by simp [Hid, leastM, hf, ← een]
        clear htv hfa een hf hT
        go_wp2
        go_ret
        exact ⟨ret_int E.out.symm, hE1.alloc _⟩
end Go.Proofs.YtmghhakebhgckaaGreatDoor

namespace Go.Proofs.YtmghhakebhgckaaGreatDoor
set_option linter.unusedSimpArgs false
set_option linter.unusedVariables false
open Go.RowKit

set_option maxHeartbeats 400000 in
theorem least_any (s : SV) (ts : BookM) (hn : ts.Fits) (name : ByteArray) (w : World) (hs : BookAt w s ts) :
    Calls Tryz.prog 20 #[.agg #[.slice s.a s.len s.cap], .string name] w fun e w' => e = .returned (.int .i64 (leastM ts 4 name)) ∧ Ext w w' := by
  have hx0 : Ext w (w.alloc (.cells #[.slice s.a s.len s.cap] 24)) := (Ext.refl w).alloc _
  go_enter Tryz.func20, Tryz.ntmps20
  go_wp2_with fail
  refine (leastWithin_any s ts hn 4 (by omega) 4 rfl name _ (hs.ext hx0)).mono ?_
  rintro e w1 ⟨rfl, hx1⟩
  go_wp2
  go_ret
  exact ⟨rfl, hx0.trans hx1⟩

def typeOkAt (b : BookM) (i : Nat) : Bool := (i == 0 || Op.bytesLess (b.getD (i - 1) TypeM.zero).name.toList (b.getD i TypeM.zero).name.toList) && goodTypeM b (b.getD i TypeM.zero)
def leastOkAt (b : BookM) (i : Nat) : Bool := (b.getD i TypeM.zero).enum || goodLeastB (leastM b 4 (b.getD i TypeM.zero).name)
def goodM (b : BookM) : Int :=
  if 4 < b.length then 7
  else if (List.range b.length).all (typeOkAt b) then (if (List.range b.length).all (leastOkAt b) then 0 else 7) else 1

theorem Ext.drewN {a w : World} (h : Ext a w) (n : Nat) : Ext a (w.drewN n) := h.trans ⟨rfl, rfl, rfl, Nat.le_refl _, fun _ _ => rfl⟩
theorem goodM_bad {ts : BookM} {k : Nat} (h4 : ¬ 4 < ts.length) (hk : k < ts.length) (h : typeOkAt ts k = false) : goodM ts = 1 := by
  unfold goodM
  rw [if_neg h4, not_all_range hk h]; rfl

set_option maxHeartbeats 1600000 in
theorem good_any (s : SV) (ts : BookM) (hn : ts.Fits) (w : World) (hs : BookAt w s ts) (hw : WordsAt w) :
    Calls Tryz.prog 13 #[.agg #[.slice s.a s.len s.cap]] w fun e w' => e = .returned (.int .i64 (goodM ts)) ∧ Ext w w' := by
  have hlen := hn.1
  obtain ⟨a, n, cap⟩ := s
  have hl := hs.1
  simp only at hl
  subst hl
  have Hs : Hid (BookAt w ⟨a, ts.length, cap⟩ ts) := hs
  clear hs
  show Calls Tryz.prog 13 #[.agg #[.slice a ts.length cap]] w _
  by_cases h4 : 4 < ts.length
  · have E : Hid (goodM ts = 7) := by unfold Hid goodM; rw [if_pos h4]
    go_enter Tryz.func13, Tryz.ntmps13
    go_wp2
    go_ret
    exact ⟨ret_int E.out.symm, (Ext.refl w).alloc _⟩
  go_enter Tryz.func13, Tryz.ntmps13
  go_wp2
  go_loopw [14] (fun i wr => ∃ (k : Nat), k ≤ ts.length ∧ i = .int .i64 k ∧ AllTo (typeOkAt ts) k ∧ Ext (w.alloc (.cells #[.slice a ts.length cap] 24)) wr) (fun i wr => ts.length - (intOf i).toNat)
  case atStart => exact ⟨0, by omega, rfl, AllTo.zero _, Ext.refl _⟩
  case round =>
    obtain ⟨k, hk, rfl, hne, hx⟩ := hrel
    have hE : Ext w wr := ((Ext.refl w).alloc _).trans hx
    have q0 := (hx.whole (heap_alloc_new _ _)).1 0 (.slice a ts.length cap) rfl
    have hz : w.heap.size < wr.heap.size := by have := hx.size; simp at this; omega
    by_cases hlt : k < ts.length
    · obtain ⟨b, o, cs, ea, hr, tv, rfl, htv⟩ := Hs.out.2 k ts[k] (by simp [hlt])
      simp only at ea
      subst ea
      obtain ⟨c0, c1, c2, c3, c4⟩ := range5 (hE.range hr)
      have Htv : Hid (TypeAt w tv ts[k]) := htv
      clear htv hr
      have Hsm : Hid (ts[k].Fits) := hn.2 ts[k] (List.getElem_mem hlt)
      have Hkk : Hid (ts.getD k TypeM.zero = ts[k]) := by simp [Hid, List.getD, hlt]
      by_cases hk0 : k < 1
      · have hd : decide (0 < k) = false := by simp; omega
        have Hok : Hid (typeOkAt ts k = goodTypeM ts ts[k]) := by
          unfold Hid typeOkAt; rw [Hkk.out, show (k == 0) = true by simp; omega]; rfl
        go_wp2
        go_quiet (fail)
        go_wp2_with fail
        refine (goodType_any ⟨some ⟨b, o, none⟩, ts.length, cap⟩ ts tv ts[k] _ ?_ ?_ ?_ hlen Hsm.out).mono ?_
        · exact Hs.out.ext ((hE.alloc _).drewN _)
        · exact Htv.out.ext ((hE.alloc _).drewN _)
        · exact hw.ext ((hE.alloc _).drewN _)
        rintro e w1 ⟨rfl, hx1⟩
        have hx1' := ((hx.alloc _).drewN _).trans hx1
        have hE1 := ((hE.alloc _).drewN _).trans hx1
        clear hx1
        cases hg : goodTypeM ts ts[k]
        · have Hg := hide hg
          go_wp2
          go_ret
          exact ⟨ret_int (goodM_bad h4 hlt (Hok.out.trans Hg.out)).symm, hE1⟩
        · have Hg := hide hg
          go_wp2
          exact ⟨⟨k + 1, by omega, by go_num, hne.succ (Hok.out.trans Hg.out), hx1'⟩, by simp [intOf]; omega⟩
      · obtain ⟨b2, o2, cs2, ea2, hr2, tv2, rfl, htv2⟩ := Hs.out.2 (k - 1) ts[k - 1] (by simp [show k - 1 < ts.length by omega])
        simp only [Option.some.injEq, Addr.mk.injEq] at ea2
        obtain ⟨rfl, rfl, _⟩ := ea2
        obtain ⟨d0, _, _, _, _⟩ := range5 (hE.range hr2)
        have Hok : Hid (typeOkAt ts k = (Op.bytesLess tv2.name.toList tv.name.toList && goodTypeM ts ts[k])) := by
          unfold Hid typeOkAt
          rw [Hkk.out, show (k == 0) = false by simp; omega, show ts.getD (k - 1) TypeM.zero = ts[k - 1] by simp [List.getD, show k - 1 < ts.length by omega], htv2.name, Htv.out.name]
          rfl
        clear htv2 hr2
        have hd : decide (0 < k) = true := by simp; omega
        have hlt1 : k - 1 < ts.length := by omega
        have hbz : b < wr.heap.size := World.block_lt_of_cell? wr _ d0
        have hwr : IntKind.i64.wrap ((k : Int) - 1) = ((k - 1 : Nat) : Int) := by
          rw [IntKind.wrap_i64]; omega
        cases hbl : Op.bytesLess tv2.name.toList tv.name.toList
        · have Hbl := hide hbl
          go_wp2
          go_quiet (fail)
          go_wp2
          go_ret
          exact ⟨ret_int (goodM_bad h4 hlt (Hok.out.trans (by rw [Hbl.out]; rfl))).symm, (hE.alloc _).drewN _⟩
        · have Hbl := hide hbl
          go_wp2
          go_quiet (fail)
          go_wp2_with fail
          refine (goodType_any ⟨some ⟨b, o, none⟩, ts.length, cap⟩ ts tv ts[k] _ ?_ ?_ ?_ hlen Hsm.out).mono ?_
          · exact Hs.out.ext ((hE.alloc _).drewN _)
          · exact Htv.out.ext ((hE.alloc _).drewN _)
          · exact hw.ext ((hE.alloc _).drewN _)
          rintro e w1 ⟨rfl, hx1⟩
          have hx1' := ((hx.alloc _).drewN _).trans hx1
          have hE1 := ((hE.alloc _).drewN _).trans hx1
          clear hx1
          cases hg : goodTypeM ts ts[k]
          · have Hg := hide hg
            go_wp2
            go_ret
            exact ⟨ret_int (goodM_bad h4 hlt (Hok.out.trans (by rw [Hbl.out, Hg.out]; rfl))).symm, hE1⟩
          · have Hg := hide hg
            go_wp2
            exact ⟨⟨k + 1, by omega, by go_num, hne.succ (Hok.out.trans (by rw [Hbl.out, Hg.out]; rfl)), hx1'⟩, by simp [intOf]; omega⟩
    · have E : Hid (goodM ts = if (List.range ts.length).all (leastOkAt ts) then 0 else 7) := by
        unfold Hid goodM
        rw [if_neg h4, if_pos (AllTo.all hne (by omega))]
      clear hne
      go_wp2
      go_loopw [41] (fun i wr2 => ∃ (k : Nat), k ≤ ts.length ∧ i = .int .i64 k ∧ AllTo (leastOkAt ts) k ∧ Ext (w.alloc (.cells #[.slice a ts.length cap] 24)) wr2) (fun i wr => ts.length - (intOf i).toNat)
      case atStart => exact ⟨0, by omega, rfl, AllTo.zero _, hx⟩
      case round =>
        clear hE q0 hz hx
        obtain ⟨j, hj, rfl, hne, hx⟩ := hrel
        have hE : Ext w wr := ((Ext.refl w).alloc _).trans hx
        have q0 := (hx.whole (heap_alloc_new _ _)).1 0 (.slice a ts.length cap) rfl
        have hz : w.heap.size < wr.heap.size := by have := hx.size; simp at this; omega
        by_cases hlt2 : j < ts.length
        · obtain ⟨b, o, cs, ea, hr, tv, rfl, htv⟩ := Hs.out.2 j ts[j] (by simp [hlt2])
          simp only at ea
          subst ea
          obtain ⟨c0, c1, c2, c3, c4⟩ := range5 (hE.range hr)
          have Hok : Hid (leastOkAt ts j = (tv.enum || goodLeastB (leastM ts 4 tv.name))) := by
            unfold Hid leastOkAt
            rw [show ts.getD j TypeM.zero = ts[j] by simp [List.getD, hlt2], htv.enum, htv.name]
          clear htv hr
          obtain ⟨nm, en, fs, gs, is⟩ := tv
          simp only at c0 c1 c2 c3 c4 Hok
          cases en
          · go_wp2_with fail
            refine (least_any ⟨some ⟨b, o, none⟩, ts.length, cap⟩ ts hn nm _ ?_).mono ?_
            · exact Hs.out.ext (hE.alloc _)
            rintro e w1 ⟨rfl, hx1⟩
            have hx1' := (hx.alloc _).trans hx1
            have hE1 := (hE.alloc _).trans hx1
            clear hx1
            go_wp2_with fail
            refine (goodLeast_any _ _).mono ?_
            rintro e w2 ⟨rfl, rfl⟩
            cases hg : goodLeastB (leastM ts 4 nm)
            · have Hg := hide hg
              go_wp2
              go_ret
              refine ⟨ret_int ?_, hE1⟩
              rw [E.out, not_all_range hlt2 (Hok.out.trans (by rw [Hg.out]; rfl))]
              rfl
            · have Hg := hide hg
              go_wp2
              exact ⟨⟨j + 1, by omega, by go_num, hne.succ (Hok.out.trans (by rw [Hg.out]; rfl)), hx1'⟩, by simp [intOf]; omega⟩
          · go_wp2
            exact ⟨⟨j + 1, by omega, by go_num, hne.succ (Hok.out.trans rfl), hx.alloc _⟩, by simp [intOf]; omega⟩
        · go_wp2
          go_ret
          refine ⟨ret_int ?_, hE⟩
          rw [E.out, AllTo.all hne (by omega)]
          rfl
end Go.Proofs.YtmghhakebhgckaaGreatDoor

namespace Go.Proofs.YtmghhakebhgckaaGreatDoor
set_option linter.unusedSimpArgs false
set_option linter.unusedVariables false
open Go.RowKit

theorem info34 : (Tryz.prog.info? 34).map (fun i => (i.zero, i.size, i.bytes)) = some (some (.agg #[.int .i64 0, .string ⟨#[]⟩, .string ⟨#[]⟩, .int .i64 0, .int .i64 0]), 5, 56) := by kernel_rfl
theorem info55 : (Tryz.prog.info? 55).map (fun i => (i.zero, i.size, i.bytes)) = some (some (.agg #[.string ⟨#[]⟩, .int .i64 0]), 2, 24) := by kernel_rfl
theorem one_field (f : FieldM) : ∀ u ∈ f.cells, u.oneCell' = true := by intro u hu; simp at hu; rcases hu with rfl | rfl | rfl | rfl | rfl <;> rfl
theorem one_item (f : ItemM) : ∀ u ∈ f.cells, u.oneCell' = true := by intro u hu; simp at hu; rcases hu with rfl | rfl <;> rfl
theorem one_int (n : Int) : ∀ u ∈ [Value.int .i64 n], u.oneCell' = true := by intro u hu; simp at hu; subst hu; rfl
theorem owns_new0 (w : World) (e : TypeId) (k : Nat) : (w.alloc (.cells #[] e)).ownsRow w.heap.size e k (.slice (some ⟨w.heap.size, 0, none⟩) 0 0) 0 [] :=
  ⟨by simp, .inr ⟨w.heap.size, 0, #[], rfl, Nat.le_refl _, heap_alloc_new w _, Nat.le_refl _, by simp, by simp, by simp⟩⟩

set_option maxHeartbeats 400000 in
theorem cloneFields_any (s : SV) (l : List FieldM) (w : World) (hs : FieldsAt w s l) (hok : s.ok) (hl : l.length ≤ 1048576) :
    Calls Tryz.prog 31 #[.slice s.a s.len s.cap] w fun e w' => ∃ s' : SV, e = .returned (.slice s'.a s'.len s'.cap) ∧ FieldsAt w' s' l ∧ s'.ok ∧ s'.Fresh w ∧ Ext w w' := by
  have q : ∀ (w : World) (a : Option Addr) (n c n' c' : Nat), (binOp .eql 26 (.slice a n c) (.slice none n' c')).run Tryz.prog w = .ok (.bool a.isNone) w := fun w a n c n' c' => Lib.run_eql_slice_nil w _ _ a n c n' c' Tryz.underlying26
  obtain ⟨a, n, cap⟩ := s
  cases a with
  | none =>
    obtain ⟨e0, e1⟩ := hok.nil rfl
    simp only at e0 e1
    subst e0 e1
    show Calls Tryz.prog 31 #[.slice none 0 0] w _
    go_enter Tryz.func31, Tryz.ntmps31
    go_wp2
    go_ret
    exact ⟨⟨none, 0, 0⟩, rfl, hs, hok, fun _ h => (by cases h), Ext.refl w⟩
  | some ad =>
    have hs1 : FieldsAt (w.alloc (.cells #[] 34)) ⟨some ad, n, cap⟩ l := hs.ext ((Ext.refl w).alloc _)
    have hx0 : Ext w (w.alloc (.cells #[] 34)) := (Ext.refl w).alloc _
    show Calls Tryz.prog 31 #[.slice (some ad) n cap] w _
    go_enter Tryz.func31, Tryz.ntmps31
    go_wp2_with (at_builtin; refine wpList_plain rfl fun _ hK => wp_app_all _ _ 26 34 _ 5 56 rfl Tryz.underlying26 info34 rfl (by decide) (by decide) FieldM.cells (fun _ => rfl) one_field w.heap.size _ (owns_new0 w 34 5) w hx0 (Nat.le_refl _) (by simp) rfl ⟨some ad, n, cap⟩ l hs1 (fun h => by cases h) hl rfl fun s' w' h1 h2 h3 h4 => hK _ _ ?_)
    go_ret
    exact ⟨s', rfl, h1, ok_of_owns h4, fresh_of_owns h4 (Nat.le_refl _), h2⟩

set_option maxHeartbeats 400000 in
theorem cloneInts_any (s : SV) (l : List Int) (w : World) (hs : IntsAt w s l) (hok : s.ok) (hl : l.length ≤ 1048576) :
    Calls Tryz.prog 32 #[.slice s.a s.len s.cap] w fun e w' => ∃ s' : SV, e = .returned (.slice s'.a s'.len s'.cap) ∧ IntsAt w' s' l ∧ s'.ok ∧ s'.Fresh w ∧ Ext w w' := by
  have q : ∀ (w : World) (a : Option Addr) (n c n' c' : Nat), (binOp .eql 27 (.slice a n c) (.slice none n' c')).run Tryz.prog w = .ok (.bool a.isNone) w := fun w a n c n' c' => Lib.run_eql_slice_nil w _ _ a n c n' c' Tryz.underlying27
  obtain ⟨a, n, cap⟩ := s
  cases a with
  | none =>
    obtain ⟨e0, e1⟩ := hok.nil rfl
    simp only at e0 e1
    subst e0 e1
    show Calls Tryz.prog 32 #[.slice none 0 0] w _
    go_enter Tryz.func32, Tryz.ntmps32
    go_wp2
    go_ret
    exact ⟨⟨none, 0, 0⟩, rfl, hs, hok, fun _ h => (by cases h), Ext.refl w⟩
  | some ad =>
    have hs1 : IntsAt (w.alloc (.cells #[] 3)) ⟨some ad, n, cap⟩ l := hs.ext ((Ext.refl w).alloc _)
    have hx0 : Ext w (w.alloc (.cells #[] 3)) := (Ext.refl w).alloc _
    show Calls Tryz.prog 32 #[.slice (some ad) n cap] w _
    go_enter Tryz.func32, Tryz.ntmps32
    go_wp2_with (at_builtin; refine wpList_plain rfl fun _ hK => wp_app_all _ _ 27 3 _ 1 8 rfl Tryz.underlying27 info3 rfl (by decide) (by decide) (fun n => [Value.int .i64 n]) (fun _ => rfl) one_int w.heap.size _ (owns_new0 w 3 1) w hx0 (Nat.le_refl _) (by simp) rfl ⟨some ad, n, cap⟩ l hs1 (fun h => by cases h) hl rfl fun s' w' h1 h2 h3 h4 => hK _ _ ?_)
    go_ret
    exact ⟨s', rfl, h1, ok_of_owns h4, fresh_of_owns h4 (Nat.le_refl _), h2⟩

set_option maxHeartbeats 400000 in
theorem cloneItems_any (s : SV) (l : List ItemM) (w : World) (hs : ItemsAt w s l) (hok : s.ok) (hl : l.length ≤ 1048576) :
    Calls Tryz.prog 33 #[.slice s.a s.len s.cap] w fun e w' => ∃ s' : SV, e = .returned (.slice s'.a s'.len s'.cap) ∧ ItemsAt w' s' l ∧ s'.ok ∧ s'.Fresh w ∧ Ext w w' := by
  have q : ∀ (w : World) (a : Option Addr) (n c n' c' : Nat), (binOp .eql 28 (.slice a n c) (.slice none n' c')).run Tryz.prog w = .ok (.bool a.isNone) w := fun w a n c n' c' => Lib.run_eql_slice_nil w _ _ a n c n' c' Tryz.underlying28
  obtain ⟨a, n, cap⟩ := s
  cases a with
  | none =>
    obtain ⟨e0, e1⟩ := hok.nil rfl
    simp only at e0 e1
    subst e0 e1
    show Calls Tryz.prog 33 #[.slice none 0 0] w _
    go_enter Tryz.func33, Tryz.ntmps33
    go_wp2
    go_ret
    exact ⟨⟨none, 0, 0⟩, rfl, hs, hok, fun _ h => (by cases h), Ext.refl w⟩
  | some ad =>
    have hs1 : ItemsAt (w.alloc (.cells #[] 55)) ⟨some ad, n, cap⟩ l := hs.ext ((Ext.refl w).alloc _)
    have hx0 : Ext w (w.alloc (.cells #[] 55)) := (Ext.refl w).alloc _
    show Calls Tryz.prog 33 #[.slice (some ad) n cap] w _
    go_enter Tryz.func33, Tryz.ntmps33
    go_wp2_with (at_builtin; refine wpList_plain rfl fun _ hK => wp_app_all _ _ 28 55 _ 2 24 rfl Tryz.underlying28 info55 rfl (by decide) (by decide) ItemM.cells (fun _ => rfl) one_item w.heap.size _ (owns_new0 w 55 2) w hx0 (Nat.le_refl _) (by simp) rfl ⟨some ad, n, cap⟩ l hs1 (fun h => by cases h) hl rfl fun s' w' h1 h2 h3 h4 => hK _ _ ?_)
    go_ret
    exact ⟨s', rfl, h1, ok_of_owns h4, fresh_of_owns h4 (Nat.le_refl _), h2⟩

set_option maxHeartbeats 800000 in
theorem find_any (s : SV) (ts : BookM) (name : ByteArray) (w : World) (hs : BookAt w s ts) (hn : ts.Small) :
    Calls Tryz.prog 9 #[.agg #[.slice s.a s.len s.cap], .string name] w fun e w' => ∃ tv : TV, e = .returned (.tuple #[.agg #[.string tv.name, .bool tv.enum, .slice tv.fields.a tv.fields.len tv.fields.cap, .slice tv.gone.a tv.gone.len tv.gone.cap, .slice tv.items.a tv.items.len tv.items.cap], .bool (findM ts name).isSome]) ∧ TypeAt w' tv ((findM ts name).getD TypeM.zero) ∧ Ext w w' := by
  have hlen := hn.1
  have hsm : ((findM ts name).getD TypeM.zero).fields.length ≤ 1048576 ∧ ((findM ts name).getD TypeM.zero).gone.length ≤ 1048576 ∧ ((findM ts name).getD TypeM.zero).items.length ≤ 1048576 := by
    cases hf : findM ts name with
    | none => simp [TypeM.zero]
    | some t => have := hn.2 t (findM_mem hf); exact ⟨this.fields, this.gone, this.items⟩
  obtain ⟨hs1, hs2, hs3⟩ := hsm
  obtain ⟨T, hT⟩ : ∃ T, (findM ts name).getD TypeM.zero = T := ⟨_, rfl⟩
  rw [hT] at hs1 hs2 hs3
  have hx0 : Ext w ((w.alloc (.cells #[.slice s.a s.len s.cap] 24)).alloc (.cells #[.string ⟨#[]⟩, .bool false, .slice none 0 0, .slice none 0 0, .slice none 0 0] 30)) := ((Ext.refl w).alloc _).alloc _
  have HT := hide hT
  clear hT
  go_enter Tryz.func9, Tryz.ntmps9
  go_wp2_with fail
  refine (lookUp_any s ts name _ (hs.ext hx0) (by omega)).mono ?_
  rintro e w1 ⟨tv, rfl, htv, hx1⟩
  rw [unhide HT] at htv
  have hr1 := hx1.heap (heap_alloc2_new _ _ _)
  have hz1 : w.heap.size + 1 < w1.heap.size := lt_of_heap hr1
  have hE1 : Ext w w1 := hx0.trans hx1
  obtain ⟨nm, en, fs, gs, is⟩ := tv
  replace htv := htv.ext hx1
  have hfs := htv.fields
  have hgs := htv.gone
  have his := htv.items
  have fok := htv.fok
  have gok := htv.gok
  have iok := htv.iok
  have Hnm := hide htv.name
  have Hen := hide htv.enum
  simp only at hfs hgs his fok gok iok Hnm Hen
  clear htv
  have hx1' : Ext w1 (w1.alloc (.cells #[.string nm, .bool en, .slice fs.a fs.len fs.cap, .slice gs.a gs.len gs.cap, .slice is.a is.len is.cap] 30)) := (Ext.refl w1).alloc _
  go_wp2_with fail
  refine (cloneFields_any fs T.fields _ (hfs.ext hx1') fok hs1).mono ?_
  rintro e w2 ⟨fs', rfl, hfs', fok', ffs, hx2⟩
  have hb2 := hx2.heap (heap_alloc_new _ _)
  obtain ⟨a0, a1, a2, a3, a4, af⟩ := row5 hb2
  have hb2' := heap_setCell_same w2 w1.heap.size 2 _ 30 (.slice fs'.a fs'.len fs'.cap) hb2
  have hE2 : Ext w1 (w2.setCell ⟨w1.heap.size, 2, none⟩ (.slice fs'.a fs'.len fs'.cap)) := (hx1'.trans hx2).setCell (by simp) _
  replace hfs' := hfs'.setCell ⟨w1.heap.size, 2, none⟩ (.slice fs'.a fs'.len fs'.cap) (fun ad ha => by have := ffs ad ha; simp at this; simp; omega)
  have hz2 : w1.heap.size < w2.heap.size := lt_of_heap hb2
  go_wp2_with fail
  refine (cloneInts_any gs T.gone _ (hgs.ext hE2) gok hs2).mono ?_
  rintro e w3 ⟨gs', rfl, hgs', gok', fgs, hx3⟩
  have hb3 := hx3.heap hb2'
  clear a0 a1 a2 a3 a4 af
  simp only [List.setIfInBounds_toArray, List.set_cons_succ, List.set_cons_zero] at hb3
  obtain ⟨a0, a1, a2, a3, a4, af⟩ := row5 hb3
  have hb3' := heap_setCell_same w3 w1.heap.size 3 _ 30 (.slice gs'.a gs'.len gs'.cap) hb3
  have hE3 : Ext w1 (w3.setCell ⟨w1.heap.size, 3, none⟩ (.slice gs'.a gs'.len gs'.cap)) := (hE2.trans hx3).setCell (by simp) _
  have ffs3 : ∀ ad, fs'.a = some ad → ad.block ≠ w1.heap.size := fun ad ha => by have := ffs ad ha; simp at this; omega
  have fgs3 : ∀ ad, gs'.a = some ad → ad.block ≠ w1.heap.size := fun ad ha => by have := fgs ad ha; simp at this; omega
  replace hfs' := (hfs'.ext hx3).setCell ⟨w1.heap.size, 3, none⟩ (.slice gs'.a gs'.len gs'.cap) ffs3
  replace hgs' := hgs'.setCell ⟨w1.heap.size, 3, none⟩ (.slice gs'.a gs'.len gs'.cap) fgs3
  have hz3 : w1.heap.size < w3.heap.size := lt_of_heap hb3
  clear hb2 hb2' hx2
  go_wp2_with fail
  refine (cloneItems_any is T.items _ (his.ext hE3) iok hs3).mono ?_
  rintro e w4 ⟨is', rfl, his', iok', fis, hx4⟩
  have hb4 := hx4.heap hb3'
  clear a0 a1 a2 a3 a4 af
  simp only [List.setIfInBounds_toArray, List.set_cons_succ, List.set_cons_zero] at hb4
  obtain ⟨a0, a1, a2, a3, a4, af⟩ := row5 hb4
  have fis3 : ∀ ad, is'.a = some ad → ad.block ≠ w1.heap.size := fun ad ha => by have := fis ad ha; simp at this; omega
  have hE4 : Ext w1 (w4.setCell ⟨w1.heap.size, 4, none⟩ (.slice is'.a is'.len is'.cap)) := (hE3.trans hx4).setCell (by simp) _
  replace hfs' := (hfs'.ext hx4).setCell ⟨w1.heap.size, 4, none⟩ (.slice is'.a is'.len is'.cap) ffs3
  replace hgs' := (hgs'.ext hx4).setCell ⟨w1.heap.size, 4, none⟩ (.slice is'.a is'.len is'.cap) fgs3
  replace his' := his'.setCell ⟨w1.heap.size, 4, none⟩ (.slice is'.a is'.len is'.cap) fis3
  obtain ⟨r0, r1, r2, r3, r4, rf⟩ := row5 ((hE3.trans hx4).heap hr1)
  have hz4 : w.heap.size + 1 < w4.heap.size := lt_of_heap ((hE3.trans hx4).heap hr1)
  have hz4' : w1.heap.size < w4.heap.size := lt_of_heap hb4
  clear hb3 hb3' hx3 hb4 hx4 hx1 hr1
  go_wp2
  refine bodyPost_ret (v := .tuple #[.agg #[.string nm, .bool en, .slice fs'.a fs'.len fs'.cap, .slice gs'.a gs'.len gs'.cap, .slice is'.a is'.len is'.cap], .bool (findM ts name).isSome]) ?_ rfl ⟨⟨nm, en, fs', gs', is'⟩, rfl, ?_, ?_⟩
  · simp [results, Tryz.results9, go_sem, r0, r1, r2, r3, r4]
  · rw [unhide HT]
    have kf : ∀ ad, fs'.a = some ad → ad.block ≠ w.heap.size + 1 := fun ad ha => by have := ffs ad ha; simp at this; omega
    have kg : ∀ ad, gs'.a = some ad → ad.block ≠ w.heap.size + 1 := fun ad ha => by have := fgs ad ha; simp at this; omega
    have ki : ∀ ad, is'.a = some ad → ad.block ≠ w.heap.size + 1 := fun ad ha => by have := fis ad ha; simp at this; omega
    exact ⟨unhide Hnm, unhide Hen, ((((hfs'.setCell _ _ kf).setCell _ _ kf).setCell _ _ kf).setCell _ _ kf).setCell _ _ kf, ((((hgs'.setCell _ _ kg).setCell _ _ kg).setCell _ _ kg).setCell _ _ kg).setCell _ _ kg, ((((his'.setCell _ _ ki).setCell _ _ ki).setCell _ _ ki).setCell _ _ ki).setCell _ _ ki, fok', gok', iok'⟩
  · exact ((((((hE1.trans hE4).setCell (by simp) _).setCell (by simp) _).setCell (by simp) _).setCell (by simp) _).setCell (by simp) _)
end Go.Proofs.YtmghhakebhgckaaGreatDoor

namespace Go.Proofs.YtmghhakebhgckaaGreatDoor
set_option linter.unusedSimpArgs false
set_option linter.unusedVariables false
open Go.RowKit

set_option maxHeartbeats 400000 in
theorem typeOf_any (s : SV) (ts : BookM) (name : ByteArray) (w : World) (hs : BookAt w s ts) (hn : ts.length ≤ 1048576) :
   Calls Tryz.prog 10 #[.agg #[.slice s.a s.len s.cap], .string name] w fun e w' => ∃ tv : TV, e = .returned (.tuple #[.agg #[.string tv.name, .bool tv.enum, .slice tv.fields.a tv.fields.len tv.fields.cap, .slice tv.gone.a tv.gone.len tv.gone.cap, .slice tv.items.a tv.items.len tv.items.cap], .bool (findM ts name).isSome]) ∧ TypeAt w tv ((findM ts name).getD TypeM.zero) ∧ Ext w w' := by
  obtain ⟨a, n, cap⟩ := s
  obtain ⟨hl, hts⟩ := hs
  simp only at hl
  subst hl
  show Calls Tryz.prog 10 #[.agg #[.slice a ts.length cap], .string name] w _
  go_enter Tryz.func10, Tryz.ntmps10
  go_wp2
  go_loopw [10] (fun i wr => ∃ k : Nat, k ≤ ts.length ∧ i = .int .i64 k ∧ NoneTo (fun t : TypeM => t.name.toList == name.toList) ts k ∧ Ext ((w.alloc (Obj.cells #[Value.slice a ts.length cap] 24)).alloc (Obj.cells #[Value.string { data := #[] }, Value.bool false, Value.slice none 0 0, Value.slice none 0 0, Value.slice none 0 0] 30)) wr) (fun i wr => ts.length - (intOf i).toNat)
  case atStart => exact ⟨0, by omega, rfl, NoneTo.zero _ _, Below.refl _ _⟩
  case round =>
    obtain ⟨k, hk, rfl, hne, hx⟩ := hrel
    have hE : Ext w wr := (((Ext.refl w).alloc _).alloc _).trans hx
    obtain ⟨q0, q1, q2, q3, q4, hf⟩ := row5 (hx.heap (heap_alloc2_new _ _ _))
    have p0 : wr.cell? ⟨w.heap.size, 0, none⟩ = some (.slice a ts.length cap) := cell_of_row _ _ 0 _ _ _ (hx.heap (heap_alloc2_old _ _ _))
    have hz : w.heap.size + 1 < wr.heap.size := by have := hx.size; simp at this; omega
    by_cases hlt : k < ts.length
    · obtain ⟨b, o, cs, rfl, hr, tv, rfl, htv⟩ := hts k ts[k] (by simp [hlt])
      obtain ⟨h0, h1, h2, h3, h4⟩ := range5 (hE.range hr)
      have Htv : Hid (TypeAt w tv ts[k]) := htv
      have Hk : Hid (ts[k]? = some ts[k]) := by simp [Hid, hlt]
      clear hts hr htv
      go_wp2
      · rename_i hname
        have e : findM ts name = some ts[k] := NoneTo.some hne Hk.out (by rw [← Htv.out.name]; exact hname)
        refine bodyPost_ret (v := .tuple #[.agg #[.string tv.name, .bool tv.enum, .slice tv.fields.a tv.fields.len tv.fields.cap, .slice tv.gone.a tv.gone.len tv.gone.cap, .slice tv.items.a tv.items.len tv.items.cap], .bool true]) (by simp [results, Tryz.results10, go_sem, q0, q1, q2, q3, q4]) rfl ⟨tv, by rw [e]; rfl, by rw [e]; exact Htv.out, ?_⟩
        exact (((((hE.setCell (by simp) _).setCell (by simp) _).setCell (by simp) _).setCell (by simp) _).setCell (by simp) _)
      · rename_i hname
        exact ⟨⟨k + 1, by omega, by go_num, NoneTo.succ hne Hk.out (by rw [← Htv.out.name]; exact hname), hx⟩, by simp [intOf]; omega⟩
    · go_wp2
      have e : findM ts name = none := NoneTo.none hne (by omega)
      refine bodyPost_ret (v := .tuple #[.agg #[.string ⟨#[]⟩, .bool false, .slice none 0 0, .slice none 0 0, .slice none 0 0], .bool false]) (by simp [results, Tryz.results10, go_sem, q0, q1, q2, q3, q4]) rfl ⟨⟨⟨#[]⟩, false, ⟨none, 0, 0⟩, ⟨none, 0, 0⟩, ⟨none, 0, 0⟩⟩, by rw [e]; rfl, by rw [e]; exact zeroTypeAt w, ?_⟩
      exact (((((hE.setCell (by simp) _).setCell (by simp) _).setCell (by simp) _).setCell (by simp) _).setCell (by simp) _)

set_option maxHeartbeats 400000 in
theorem fieldIn_any (tv : TV) (t : TypeM) (n : Int) (w : World) (ht : TypeAt w tv t) (hn : t.fields.length ≤ 1048576) :
    Calls Tryz.prog 12 #[.agg #[.string tv.name, .bool tv.enum, .slice tv.fields.a tv.fields.len tv.fields.cap, .slice tv.gone.a tv.gone.len tv.gone.cap, .slice tv.items.a tv.items.len tv.items.cap], .int .i64 n] w fun e w' => e = .returned (.tuple #[.agg ((fieldM t n).getD FieldM.zero).cells.toArray, .bool (fieldM t n).isSome]) ∧ Ext w w' := by
  obtain ⟨name, enum, fs, gs, is⟩ := tv
  obtain ⟨b', n', c'⟩ := fs
  obtain ⟨hl, hts⟩ := ht.fields
  simp only at hl
  subst hl
  show Calls Tryz.prog 12 #[.agg #[.string name, .bool enum, .slice b' t.fields.length c', .slice gs.a gs.len gs.cap, .slice is.a is.len is.cap], .int .i64 n] w _
  go_enter Tryz.func12, Tryz.ntmps12
  go_wp2
  go_loopw [10] (fun i wr => ∃ k : Nat, k ≤ t.fields.length ∧ i = .int .i64 k ∧ NoneTo (fun i : FieldM => i.id == n) t.fields k ∧ Ext ((w.alloc (Obj.cells #[.string name, .bool enum, .slice b' t.fields.length c', .slice gs.a gs.len gs.cap, .slice is.a is.len is.cap] 30)).alloc (Obj.cells #[.int .i64 0, .string ⟨#[]⟩, .string ⟨#[]⟩, .int .i64 0, .int .i64 0] 34)) wr) (fun i wr => t.fields.length - (intOf i).toNat)
  case atStart => exact ⟨0, by omega, rfl, NoneTo.zero _ _, Below.refl _ _⟩
  case round =>
    obtain ⟨k, hk, rfl, hne, hx⟩ := hrel
    have hE : Ext w wr := (((Ext.refl w).alloc _).alloc _).trans hx
    obtain ⟨q0, q1, q2, q3, q4, hf⟩ := row5 (hx.heap (heap_alloc2_new _ _ _))
    obtain ⟨_, _, p2, _, _, _⟩ := row5 (hx.heap (heap_alloc2_old _ _ _))
    have hz : w.heap.size + 1 < wr.heap.size := by have := hx.size; simp at this; omega
    by_cases hlt : k < t.fields.length
    · obtain ⟨b, o, cs, rfl, hr, rfl⟩ := hts k t.fields[k] (by simp [hlt])
      obtain ⟨h0, h1, h2, h3, h4⟩ := range5 (hE.range hr)
      have Hk : Hid (t.fields[k]? = some t.fields[k]) := by simp [Hid, hlt]
      clear hts hr
      go_wp2
      · rename_i hname
        have e : fieldM t n = some t.fields[k] := NoneTo.some hne Hk.out hname
        refine bodyPost_ret (v := .tuple #[.agg t.fields[k].cells.toArray, .bool true]) (by simp [results, Tryz.results12, go_sem, q0, q1, q2, q3, q4]) rfl ⟨by rw [e]; rfl, ?_⟩
        exact (((((hE.setCell (by simp) _).setCell (by simp) _).setCell (by simp) _).setCell (by simp) _).setCell (by simp) _)
      · rename_i hname
        exact ⟨⟨k + 1, by omega, by go_num, NoneTo.succ hne Hk.out hname, hx⟩, by simp [intOf]; omega⟩
    · go_wp2
      have e : fieldM t n = none := NoneTo.none hne (by omega)
      refine bodyPost_ret (v := .tuple #[.agg FieldM.zero.cells.toArray, .bool false]) (by simp [results, Tryz.results12, go_sem, q0, q1, q2, q3, q4, FieldM.zero]) rfl ⟨by rw [e]; rfl, ?_⟩
      exact (((((hE.setCell (by simp) _).setCell (by simp) _).setCell (by simp) _).setCell (by simp) _).setCell (by simp) _)
end Go.Proofs.YtmghhakebhgckaaGreatDoor

