import Derived.Test.YtnppgeiompimaaaDoorM6
import Derived.Deep.QuietTactic
import Derived.BigQuiet
namespace Go.Proofs.YtnppgeiompimaaaDoor
set_option linter.unusedSimpArgs false
set_option linter.unusedVariables false
set_option linter.unusedSimpArgs false
set_option linter.unusedVariables false
open Go.RowKit

theorem and_127 (c : UInt8) : bits .and .u8 (c.toNat : Int) 127 = ((c.toNat % 128 : Nat) : Int) := by
  have := bits_mask .u8 8 (by decide) wraps_u8 7 (by decide) (c.toNat : Int) (by omega) (by have := c.toNat_lt; omega)
  rw [show (2 : Int) ^ 7 - 1 = 127 by decide, show (2 : Int) ^ 7 = 128 by decide] at this
  rw [this]; omega
theorem or_shift (u k : Nat) (c : UInt8) (h6 : k < 6) (hu : u < 128 ^ k) : bits .or .u64 (u : Int) (IntKind.u64.wrap ((c.toNat : Int) % 128 * 2 ^ (7 * k))) = ((u + 128 ^ k * (c.toNat % 128) : Nat) : Int) := by
  have e : (128 : Nat) ^ k = 2 ^ (7 * k) := by rw [Nat.pow_mul]
  have hb : (128 : Nat) ^ k ≤ 128 ^ 5 := Nat.pow_le_pow_right (by omega) (by omega)
  rw [e] at hu hb ⊢
  have h5 : (128 : Nat) ^ 5 = 34359738368 := by decide
  rw [h5] at hb
  have hc : c.toNat % 128 ≤ 127 := by omega
  have hm : 2 ^ (7 * k) * (c.toNat % 128) ≤ 34359738368 * 127 := Nat.mul_le_mul hb hc
  have hw : IntKind.u64.wrap ((c.toNat : Int) % 128 * 2 ^ (7 * k)) = ((2 ^ (7 * k) * (c.toNat % 128) : Nat) : Int) := by
    have e2 : (c.toNat : Int) % 128 * 2 ^ (7 * k) = ((2 ^ (7 * k) * (c.toNat % 128) : Nat) : Int) := by
      rw [Int.mul_comm]; simp
    rw [e2, IntKind.wrap_u64]
    omega
  rw [hw, bits_or_u64_nat u _ (by omega) (by omega), Nat.or_comm, ← Nat.two_pow_add_eq_or_of_lt hu, Nat.add_comm]
theorem or_none (c : UInt8) : bits .or .u64 0 ((c.toNat : Int) % 128) = ((c.toNat % 128 : Nat) : Int) := by
  have := bits_or_u64_nat 0 (c.toNat % 128) (by omega) (by omega)
  rw [Nat.zero_or] at this
  exact this

theorem extract_data (s : ByteArray) (i j : Nat) : (s.extract i j).data.toList = (s.data.toList.drop i).take (j - i) := by
  rw [ByteArray.data_extract, Array.toList_extract]
theorem extract_end (s : ByteArray) (i : Nat) : (s.extract i s.size).data.toList = s.data.toList.drop i := by
  rw [extract_data, List.take_of_length_le]
  rw [List.length_drop, bytes_len]; omega
theorem drop_byte (s : ByteArray) (k : Nat) (h : k < s.size) : s.data.toList.drop k = s[k] :: s.data.toList.drop (k + 1) := by
  rw [drop_cons (by rw [bytes_len]; exact h)]; rfl
theorem cutN_last {n : Nat} {f : Bool} {c : UInt8} {r : List UInt8} (hc : c.toNat < 128) (hf : (f || c.toNat != 0) = true) : cutN (n + 1) f (c :: r) = some (c.toNat, r) := by
  rw [cutN, if_pos hc, hf, if_pos rfl]
theorem cutN_zero {n : Nat} {f : Bool} {c : UInt8} {r : List UInt8} (hc : c.toNat < 128) (hf : (f || c.toNat != 0) = false) : cutN (n + 1) f (c :: r) = none := by
  rw [cutN, if_pos hc, hf]; rfl
theorem cutN_more {n : Nat} {f : Bool} {c : UInt8} {r : List UInt8} (hc : ¬ c.toNat < 128) : cutN (n + 1) f (c :: r) = (cutN n false r).map fun p => (c.toNat - 128 + 128 * p.1, p.2) := by
  rw [cutN, if_neg hc]
theorem cutN_end (n : Nat) (f : Bool) : cutN n f [] = none := by cases n <;> rfl

/-- How far the number in front is read. -/
def CutTo (l : List UInt8) (k u : Nat) : Prop := u < 128 ^ k ∧ cutN 6 true l = (cutN (6 - k) (k == 0) (l.drop k)).map (fun p => (u + 128 ^ k * p.1, p.2))
theorem CutTo.start (l : List UInt8) : CutTo l 0 0 := ⟨by decide, by simp⟩
theorem CutTo.next {s : ByteArray} {k u : Nat} (h : CutTo s.data.toList k u) (h6 : k < 6) (hk : k < s.size) (hc : ¬ s[k].toNat < 128) : CutTo s.data.toList (k + 1) (u + 128 ^ k * (s[k].toNat % 128)) := by
  have hlt := s[k].toNat_lt
  have hp := Nat.pow_pos (a := 128) (n := k) (by omega)
  refine ⟨?_, ?_⟩
  · have h1 := h.1
    have h2 : 128 ^ k * (s[k].toNat % 128) ≤ 128 ^ k * 127 := Nat.mul_le_mul_left _ (by omega)
    rw [Nat.pow_succ]; omega
  · rw [h.2, drop_byte s k hk, show 6 - k = (6 - (k + 1)) + 1 by omega, cutN_more hc, Option.map_map, show ((k + 1 : Nat) == 0) = false by simp]
    congr 1
    funext p
    simp only [Function.comp_apply, Prod.mk.injEq, and_true]
    rw [show s[k].toNat % 128 = s[k].toNat - 128 by omega, Nat.pow_succ, Nat.mul_add, Nat.mul_assoc]
    omega
theorem CutTo.last {s : ByteArray} {k u : Nat} (h : CutTo s.data.toList k u) (h6 : k < 6) (hk : k < s.size) (hc : s[k].toNat < 128) (hf : (k == 0 || s[k].toNat != 0) = true) : cutN 6 true s.data.toList = some (u + 128 ^ k * (s[k].toNat % 128), (s.extract (k + 1) s.size).data.toList) := by
  rw [h.2, drop_byte s k hk, show 6 - k = (6 - (k + 1)) + 1 by omega, cutN_last hc hf, extract_end, show s[k].toNat % 128 = s[k].toNat by omega]
  rfl
theorem CutTo.zero {s : ByteArray} {k u : Nat} (h : CutTo s.data.toList k u) (h6 : k < 6) (hk : k < s.size) (hc : s[k].toNat < 128) (hf : (k == 0 || s[k].toNat != 0) = false) : cutN 6 true s.data.toList = none := by
  rw [h.2, drop_byte s k hk, show 6 - k = (6 - (k + 1)) + 1 by omega, cutN_zero hc hf]
  rfl
theorem CutTo.none {s : ByteArray} {k u : Nat} (h : CutTo s.data.toList k u) (hk : 6 ≤ k ∨ s.size ≤ k) : cutN 6 true s.data.toList = none := by
  rw [h.2]
  rcases hk with hk | hk
  · rw [show 6 - k = 0 by omega]; rfl
  · rw [List.drop_of_length_le (by rw [bytes_len]; exact hk), cutN_end]; rfl

end Go.Proofs.YtnppgeiompimaaaDoor

namespace Go.Proofs.YtnppgeiompimaaaDoor
set_option linter.unusedSimpArgs false
set_option linter.unusedVariables false
open Go.RowKit

theorem ret_cut {a b : Int} {r : ByteArray} {ok : Bool} (h : a = b) : Ending.returned (.tuple #[.int .u64 a, .string r, .bool ok]) = .returned (.tuple #[.int .u64 b, .string r, .bool ok]) := by rw [h]

end Go.Proofs.YtnppgeiompimaaaDoor

namespace Go.Proofs.YtnppgeiompimaaaDoor
set_option linter.unusedSimpArgs false
set_option linter.unusedVariables false
open Go.RowKit

theorem size_extract_end (s : ByteArray) (i : Nat) : (s.extract i s.size).size = s.size - i := by
  rw [← bytes_len, extract_end, List.length_drop, bytes_len]
theorem cutN_size {s r : ByteArray} {u : Nat} (h : cutN 6 true s.data.toList = some (u, r.data.toList)) : r.size < s.size ∧ u < 4398046511104 := by
  have h1 := cutN_lt h
  rw [bytes_len, bytes_len] at h1
  exact ⟨h1, (sev_cut _ _ _ _ _ h).2.1⟩
theorem cutP_no1 {l : List UInt8} (h : cutN 6 true l = none) : cutP l = none := by unfold cutP; rw [h]
theorem cutP_no2 {l r : List UInt8} {hd : Nat} (h : cutN 6 true l = some (hd, r)) (h2 : cutN 6 true r = none) : cutP l = none := by unfold cutP; rw [h]; simp only; rw [h2]
theorem cutP_num {l r r' : List UInt8} {hd u : Nat} (h : cutN 6 true l = some (hd, r)) (h2 : cutN 6 true r = some (u, r')) (hk : hd % 4 = 0) : cutP l = some (⟨(hd / 4 : Nat), 0, unfoldN u, ⟨#[]⟩⟩, r') := by
  unfold cutP; rw [h]; simp only; rw [h2]; simp only; rw [if_pos hk]
theorem cutP_long {l r r' : List UInt8} {hd u : Nat} (h : cutN 6 true l = some (hd, r)) (h2 : cutN 6 true r = some (u, r')) (hk : ¬ hd % 4 = 0) (hu : r'.length < u) : cutP l = none := by
  unfold cutP; rw [h]; simp only; rw [h2]; simp only; rw [if_neg hk, if_pos hu]
theorem cutP_text {l r r' : List UInt8} {hd u : Nat} (h : cutN 6 true l = some (hd, r)) (h2 : cutN 6 true r = some (u, r')) (hk : ¬ hd % 4 = 0) (hu : ¬ r'.length < u) : cutP l = some (⟨(hd / 4 : Nat), (hd % 4 : Nat), 0, ⟨(r'.take u).toArray⟩⟩, r'.drop u) := by
  unfold cutP; rw [h]; simp only; rw [h2]; simp only; rw [if_neg hk, if_neg hu]
theorem extract_take (s : ByteArray) (u : Nat) : s.extract 0 u = ⟨(s.data.toList.take u).toArray⟩ := by
  apply bytes_ext
  rw [extract_data]; simp

end Go.Proofs.YtnppgeiompimaaaDoor

namespace Go.Proofs.YtnppgeiompimaaaDoor
set_option linter.unusedSimpArgs false
set_option linter.unusedVariables false
open Go.RowKit

theorem range_of_new4 (w : World) (u0 u1 u2 u3 : Value) (t : TypeId) {g : Nat} (hg : g = w.heap.size) : (w.alloc (.cells #[u0, u1, u2, u3] t)).rangeAt g 0 [u0, u1, u2, u3] := by
  subst hg
  exact World.rangeAt_of_block (heap_alloc_new w _) 0 4
theorem one_part (p : PartM) : ∀ u ∈ p.cells, u.oneCell' = true := by intro u hu; simp at hu; rcases hu with rfl | rfl | rfl | rfl <;> rfl

/-- What Decode answers: the error's number, and the parts. -/
def decE (l : List UInt8) : Int := if 20000 < l.length then 7 else match decR l.length l with | none => 1 | some _ => 0
def decL (l : List UInt8) : List PartM := if 20000 < l.length then [] else (decR l.length l).getD []
theorem decE_none {l : List UInt8} (hl : l.length ≤ 20000) (h : decR l.length l = none) : decE l = 1 ∧ decL l = [] := by
  unfold decE decL; rw [if_neg (by omega), if_neg (by omega), h]; exact ⟨rfl, rfl⟩
theorem decE_some {l : List UInt8} {ps : List PartM} (hl : l.length ≤ 20000) (h : decR l.length l = some ps) : decE l = 0 ∧ decL l = ps := by
  unfold decE decL; rw [if_neg (by omega), if_neg (by omega), h]; exact ⟨rfl, rfl⟩
theorem decE_long {l : List UInt8} (hl : 20000 < l.length) : decE l = 7 ∧ decL l = [] := by
  unfold decE decL; rw [if_pos hl, if_pos hl]; exact ⟨rfl, rfl⟩
def strLen : Value → Nat | .string t => t.size | _ => 0
theorem nil_parts (w : World) : PartsAt w ⟨none, 0, 0⟩ [] := ⟨rfl, fun i x hx => by simp at hx⟩
theorem nil_ok : SV.ok ⟨none, 0, 0⟩ := ⟨Nat.le_refl _, fun _ => rfl⟩
theorem decR_step {t : ByteArray} {p : PartM} {r : ByteArray} (hc : cutP t.data.toList = some (p, r.data.toList)) (hg : goodB p = true) : decR t.size t.data.toList = (decR r.size r.data.toList).map (p :: ·) := by
  have hlt := cutP_lt hc
  rw [bytes_len, bytes_len] at hlt
  have hl := bytes_len t
  cases hh : t.data.toList with
  | nil => rw [hh] at hl; simp at hl; omega
  | cons c l =>
    rw [hh] at hc hl
    simp only [List.length_cons] at hl
    rw [← hl, decR, hc]
    simp only
    rw [if_pos hg, decR_fuel l.length r.size r.data.toList (by rw [bytes_len]; omega) (by rw [bytes_len]; omega)]
theorem decR_fail {t : ByteArray} (hne : t ≠ ⟨#[]⟩) (h : cutP t.data.toList = none ∨ ∃ p r, cutP t.data.toList = some (p, r) ∧ goodB p = false) : decR t.size t.data.toList = none := by
  have hl := bytes_len t
  cases hh : t.data.toList with
  | nil => exact absurd (bytes_ext (by rw [hh])) hne
  | cons c l =>
    rw [hh] at h hl
    simp only [List.length_cons] at hl
    rw [← hl, decR]
    rcases h with h | ⟨p, r, h, hg⟩
    · rw [h]
    · rw [h]; simp only; rw [if_neg (by simp [hg])]

end Go.Proofs.YtnppgeiompimaaaDoor

