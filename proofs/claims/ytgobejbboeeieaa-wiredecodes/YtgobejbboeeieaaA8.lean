import Derived.Test.YtgobejbboeeieaaA7
import Derived.Deep.QuietTactic
import Derived.BigQuiet
namespace Go.Proofs.Ytgobejbboeeieaa
set_option linter.unusedSimpArgs false
set_option linter.unusedVariables false
open Go.RowKit

theorem and_127 (c : UInt8) : bits .and .u8 (c.toNat : Int) 127 = ((c.toNat % 128 : Nat) : Int) := by
  have := bits_mask .u8 8 (by decide) wraps_u8 7 (by decide) (c.toNat : Int) (by omega) (by have := c.toNat_lt; omega)
  rw [show (2 : Int) ^ 7 - 1 = 127 by decide, show (2 : Int) ^ 7 = 128 by decide] at this
  rw [this]; omega
theorem or_shift (u k : Nat) (c : UInt8) (h6 : k < 6) (hu : u < 128 ^ k) : bits .or .u64 (u : Int) (IntKind.u64.wrap ((c.toNat : Int) % 128 * 2 ^ (7 * k))) = ((u + 128 ^ k * (c.toNat % 128) : Nat) : Int) := by
  have e : (128 : Nat) ^ k = 2 ^ (7 * k) := by rw [Nat.pow_mul]
  have hb : (128 : Nat) ^ k ≤ 128 ^ 5 := Nat.pow_le_pow_right (by omega) (by omega)
  rw [e] at hu hb ⊢
  have h5 : (128 : Nat) ^ 5 = 34359738368 := by decide
  rw [h5] at hb
  have hc : c.toNat % 128 ≤ 127 := by omega
  have hm : 2 ^ (7 * k) * (c.toNat % 128) ≤ 34359738368 * 127 := Nat.mul_le_mul hb hc
  have hw : IntKind.u64.wrap ((c.toNat : Int) % 128 * 2 ^ (7 * k)) = ((2 ^ (7 * k) * (c.toNat % 128) : Nat) : Int) := by
    have e2 : (c.toNat : Int) % 128 * 2 ^ (7 * k) = ((2 ^ (7 * k) * (c.toNat % 128) : Nat) : Int) := by
      rw [Int.mul_comm]; simp
    rw [e2, IntKind.wrap_u64]
    omega
  rw [hw, bits_or_u64_nat u _ (by omega) (by omega), Nat.or_comm, ← Nat.two_pow_add_eq_or_of_lt hu, Nat.add_comm]
theorem or_none (c : UInt8) : bits .or .u64 0 ((c.toNat : Int) % 128) = ((c.toNat % 128 : Nat) : Int) := by
  have := bits_or_u64_nat 0 (c.toNat % 128) (by omega) (by omega)
  rw [Nat.zero_or] at this
  exact this

theorem extract_data (s : ByteArray) (i j : Nat) : (s.extract i j).data.toList = (s.data.toList.drop i).take (j - i) := by
  rw [ByteArray.data_extract, Array.toList_extract]
theorem extract_end (s : ByteArray) (i : Nat) : (s.extract i s.size).data.toList = s.data.toList.drop i := by
  rw [extract_data, List.take_of_length_le]
  rw [List.length_drop, bytes_len]; omega
theorem drop_byte (s : ByteArray) (k : Nat) (h : k < s.size) : s.data.toList.drop k = s[k] :: s.data.toList.drop (k + 1) := by
  rw [drop_cons (by rw [bytes_len]; exact h)]; rfl
theorem cutN_last {n : Nat} {f : Bool} {c : UInt8} {r : List UInt8} (hc : c.toNat < 128) (hf : (f || c.toNat != 0) = true) : cutN (n + 1) f (c :: r) = some (c.toNat, r) := by
  rw [cutN, if_pos hc, hf, if_pos rfl]
theorem cutN_zero {n : Nat} {f : Bool} {c : UInt8} {r : List UInt8} (hc : c.toNat < 128) (hf : (f || c.toNat != 0) = false) : cutN (n + 1) f (c :: r) = none := by
  rw [cutN, if_pos hc, hf]; rfl
theorem cutN_more {n : Nat} {f : Bool} {c : UInt8} {r : List UInt8} (hc : ¬ c.toNat < 128) : cutN (n + 1) f (c :: r) = (cutN n false r).map fun p => (c.toNat - 128 + 128 * p.1, p.2) := by
  rw [cutN, if_neg hc]
theorem cutN_end (n : Nat) (f : Bool) : cutN n f [] = none := by cases n <;> rfl

/-- How far the number in front is read. -/
def CutTo (l : List UInt8) (k u : Nat) : Prop := u < 128 ^ k ∧ cutN 6 true l = (cutN (6 - k) (k == 0) (l.drop k)).map (fun p => (u + 128 ^ k * p.1, p.2))
theorem CutTo.start (l : List UInt8) : CutTo l 0 0 := ⟨by decide, by simp⟩
theorem CutTo.next {s : ByteArray} {k u : Nat} (h : CutTo s.data.toList k u) (h6 : k < 6) (hk : k < s.size) (hc : ¬ s[k].toNat < 128) : CutTo s.data.toList (k + 1) (u + 128 ^ k * (s[k].toNat % 128)) := by
  have hlt := s[k].toNat_lt
  have hp := Nat.pow_pos (a := 128) (n := k) (by omega)
  refine ⟨?_, ?_⟩
  · have h1 := h.1
    have h2 : 128 ^ k * (s[k].toNat % 128) ≤ 128 ^ k * 127 := Nat.mul_le_mul_left _ (by omega)
    rw [Nat.pow_succ]; omega
  · rw [h.2, drop_byte s k hk, show 6 - k = (6 - (k + 1)) + 1 by omega, cutN_more hc, Option.map_map, show ((k + 1 : Nat) == 0) = false by simp]
    congr 1
    funext p
    simp only [Function.comp_apply, Prod.mk.injEq, and_true]
    rw [show s[k].toNat % 128 = s[k].toNat - 128 by omega, Nat.pow_succ, Nat.mul_add, Nat.mul_assoc]
    omega
theorem CutTo.last {s : ByteArray} {k u : Nat} (h : CutTo s.data.toList k u) (h6 : k < 6) (hk : k < s.size) (hc : s[k].toNat < 128) (hf : (k == 0 || s[k].toNat != 0) = true) : cutN 6 true s.data.toList = some (u + 128 ^ k * (s[k].toNat % 128), (s.extract (k + 1) s.size).data.toList) := by
  rw [h.2, drop_byte s k hk, show 6 - k = (6 - (k + 1)) + 1 by omega, cutN_last hc hf, extract_end, show s[k].toNat % 128 = s[k].toNat by omega]
  rfl
theorem CutTo.zero {s : ByteArray} {k u : Nat} (h : CutTo s.data.toList k u) (h6 : k < 6) (hk : k < s.size) (hc : s[k].toNat < 128) (hf : (k == 0 || s[k].toNat != 0) = false) : cutN 6 true s.data.toList = none := by
  rw [h.2, drop_byte s k hk, show 6 - k = (6 - (k + 1)) + 1 by omega, cutN_zero hc hf]
  rfl
theorem CutTo.none {s : ByteArray} {k u : Nat} (h : CutTo s.data.toList k u) (hk : 6 ≤ k ∨ s.size ≤ k) : cutN 6 true s.data.toList = none := by
  rw [h.2]
  rcases hk with hk | hk
  · rw [show 6 - k = 0 by omega]; rfl
  · rw [List.drop_of_length_le (by rw [bytes_len]; exact hk), cutN_end]; rfl

end Go.Proofs.Ytgobejbboeeieaa
