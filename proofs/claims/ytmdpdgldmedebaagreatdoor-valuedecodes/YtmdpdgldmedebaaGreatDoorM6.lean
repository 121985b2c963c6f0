import Derived.Test.YtmdpdgldmedebaaGreatDoorM5
import Derived.WalkKit
import Derived.Deep.MidRow
import Derived.Lib.AppendStr
import Derived.Laws.IdiomStrings
import Derived.Laws.BytesArg
/-
  What chapter 2 says of parts and bytes, as plain functions on lists, and the two ways round: what is written is read back, and what is read has just these bytes. Nothing of the program is named here.
-/
namespace Go.Proofs.YtmdpdgldmedebaaGreatDoor
set_option linter.unusedSimpArgs false
set_option linter.unusedVariables false
set_option linter.unusedSimpArgs false
set_option linter.unusedVariables false

/-- A number's bytes, seven bits each, the lowest first. -/
def sevF : Nat → Nat → List UInt8
  | 0, u => [UInt8.ofNat u]
  | f + 1, u => if u < 128 then [UInt8.ofNat u] else UInt8.ofNat (u % 128 + 128) :: sevF f (u / 128)
theorem sevF_fuel : ∀ (f g u : Nat), u ≤ f → u ≤ g → sevF f u = sevF g u
  | 0, 0, _, _, _ => rfl
  | 0, g + 1, u, hf, _ => by rw [sevF, sevF, if_pos (by omega)]
  | f + 1, 0, u, _, hg => by rw [sevF, sevF, if_pos (by omega)]
  | f + 1, g + 1, u, hf, hg => by
    rw [sevF, sevF]
    by_cases h : u < 128
    · rw [if_pos h, if_pos h]
    · rw [if_neg h, if_neg h, sevF_fuel f g (u / 128) (by omega) (by omega)]
def sev (u : Nat) : List UInt8 := sevF u u

theorem sev_small {u : Nat} (h : u < 128) : sev u = [UInt8.ofNat u] := by
  unfold sev
  cases u with
  | zero => rfl
  | succ u => rw [sevF, if_pos h]
theorem sev_large {u : Nat} (h : ¬ u < 128) : sev u = UInt8.ofNat (u % 128 + 128) :: sev (u / 128) := by
  unfold sev
  cases u with
  | zero => omega
  | succ u => rw [sevF, if_neg h, sevF_fuel u ((u + 1) / 128) ((u + 1) / 128) (by omega) (by omega)]

/-- The number that stands in front, of at most so many bytes, and what is behind it. -/
def cutN : Nat → Bool → List UInt8 → Option (Nat × List UInt8)
  | 0, _, _ => none
  | _ + 1, _, [] => none
  | n + 1, first, c :: r => if c.toNat < 128 then (if first || c.toNat != 0 then some (c.toNat, r) else none) else (cutN n false r).map fun p => (c.toNat - 128 + 128 * p.1, p.2)

theorem byte_small {u : Nat} (h : u < 128) : (UInt8.ofNat u).toNat = u := by rw [UInt8.toNat_ofNat']; omega
theorem byte_large (u : Nat) : (UInt8.ofNat (u % 128 + 128)).toNat = u % 128 + 128 := by rw [UInt8.toNat_ofNat']; omega

theorem cut_sev : ∀ (n u : Nat) (first : Bool) (r : List UInt8), u < 128 ^ (n + 1) → (first || u != 0) = true → cutN (n + 1) first (sev u ++ r) = some (u, r)
  | 0, u, first, r, hu, hf => by
    have h : u < 128 := by simpa using hu
    rw [sev_small h]
    simp only [List.cons_append, List.nil_append, cutN, byte_small h, if_pos h, hf, if_true]
  | n + 1, u, first, r, hu, hf => by
    by_cases h : u < 128
    · rw [sev_small h]
      simp only [List.cons_append, List.nil_append, cutN, byte_small h, if_pos h, hf, if_true]
    · rw [sev_large h]
      have h1 : u / 128 < 128 ^ (n + 1) := by rw [Nat.div_lt_iff_lt_mul (by omega), ← Nat.pow_succ]; exact hu
      have h2 : (false || (u / 128) != 0) = true := by simp; omega
      rw [List.cons_append, cutN, byte_large, if_neg (by omega), cut_sev n (u / 128) false r h1 h2]
      simp only [Option.map_some, Option.some.injEq, Prod.mk.injEq, and_true]
      omega

theorem sev_cut : ∀ (n : Nat) (first : Bool) (l : List UInt8) (u : Nat) (r : List UInt8), cutN n first l = some (u, r) → l = sev u ++ r ∧ u < 128 ^ n ∧ (first || u != 0) = true
  | 0, _, _, _, _, h => by simp [cutN] at h
  | _ + 1, _, [], _, _, h => by simp [cutN] at h
  | n + 1, first, c :: t, u, r, h => by
    rw [cutN] at h
    by_cases hc : c.toNat < 128
    · rw [if_pos hc] at h
      cases hf : (first || c.toNat != 0)
      · rw [hf] at h; simp at h
      · rw [hf] at h
        simp only [if_true, Option.some.injEq, Prod.mk.injEq] at h
        obtain ⟨rfl, rfl⟩ := h
        refine ⟨?_, ?_, hf⟩
        · rw [sev_small hc]; simp
        · exact Nat.lt_of_lt_of_le hc (Nat.le_self_pow (Nat.succ_ne_zero n) 128)
    · rw [if_neg hc] at h
      obtain ⟨⟨v, r'⟩, hv, he⟩ := Option.map_eq_some_iff.1 h
      simp only [Prod.mk.injEq] at he
      obtain ⟨rfl, rfl⟩ := he
      obtain ⟨h1, h2, h3⟩ := sev_cut n false t v r' hv
      have h4 : v ≠ 0 := by simpa using h3
      have hlt := c.toNat_lt
      refine ⟨?_, ?_, ?_⟩
      · rw [sev_large (by omega), show (c.toNat - 128 + 128 * v) % 128 + 128 = c.toNat by omega, show (c.toNat - 128 + 128 * v) / 128 = v by omega, h1]
        simp
      · rw [Nat.pow_succ]; omega
      · simp; omega

/-- A part. -/
structure PartM where
  id : Int
  kind : Int
  n : Int
  s : ByteArray

def PartM.good (p : PartM) : Prop := 1 ≤ p.id ∧ p.id ≤ 30 ∧ (p.kind = 0 ∧ -1099511627776 ≤ p.n ∧ p.n ≤ 1099511627776 ∧ p.s = ⟨#[]⟩ ∨ (p.kind = 1 ∨ p.kind = 2) ∧ p.n = 0 ∧ p.s.size ≤ 20000)
def goodB (p : PartM) : Bool := decide (1 ≤ p.id) && decide (p.id ≤ 30) && (decide (p.kind = 0) && decide (-1099511627776 ≤ p.n) && decide (p.n ≤ 1099511627776) && decide (p.s.size = 0) || (decide (p.kind = 1) || decide (p.kind = 2)) && decide (p.n = 0) && decide (p.s.size ≤ 20000))
theorem size_zero (s : ByteArray) : s.size = 0 ↔ s = ⟨#[]⟩ := by
  constructor
  · intro h
    cases s with | mk a =>
    have h2 : a.size = 0 := h
    rw [Array.size_eq_zero_iff] at h2
    rw [h2]
  · intro h; rw [h]; rfl
theorem goodB_true {p : PartM} : goodB p = true ↔ p.good := by
  unfold goodB PartM.good
  rw [← size_zero]
  simp only [Bool.and_eq_true, Bool.or_eq_true, decide_eq_true_eq]
  omega
theorem goodB_false {p : PartM} : goodB p = false ↔ ¬ p.good := by
  rw [← goodB_true]; simp

def foldN (n : Int) : Nat := if n < 0 then (-2 * n - 1).toNat else (2 * n).toNat
def unfoldN (u : Nat) : Int := if u % 2 = 1 then -(u / 2 : Int) - 1 else (u / 2 : Int)
theorem unfold_fold (n : Int) : unfoldN (foldN n) = n := by unfold unfoldN foldN; split <;> split <;> omega
theorem fold_unfold (u : Nat) : foldN (unfoldN u) = u := by unfold unfoldN foldN; split <;> split <;> omega
def headN (p : PartM) : Nat := (4 * p.id + p.kind).toNat

/-- A part's bytes. -/
def partB (p : PartM) : List UInt8 := sev (headN p) ++ (if p.kind = 0 then sev (foldN p.n) else sev p.s.size ++ p.s.data.toList)
/-- The part that stands in front, and what is behind it. -/
def cutP (l : List UInt8) : Option (PartM × List UInt8) :=
  match cutN 6 true l with
  | none => none
  | some (h, r) => match cutN 6 true r with
    | none => none
    | some (u, r') => if h % 4 = 0 then some (⟨(h / 4 : Nat), 0, unfoldN u, ⟨#[]⟩⟩, r') else if r'.length < u then none else some (⟨(h / 4 : Nat), (h % 4 : Nat), 0, ⟨(r'.take u).toArray⟩⟩, r'.drop u)

theorem bytes_ext {a b : ByteArray} (h : a.data.toList = b.data.toList) : a = b := by
  cases a with | mk a => cases b with | mk b => simp only [ByteArray.mk.injEq]; exact Array.toList_inj.1 h

theorem bytes_len (a : ByteArray) : a.data.toList.length = a.size := by rw [Array.length_toList]; rfl

theorem fold_lt {n : Int} (h1 : -1099511627776 ≤ n) (h2 : n ≤ 1099511627776) : foldN n < 128 ^ (5 + 1) := by
  have e : (128 : Nat) ^ (5 + 1) = 4398046511104 := by decide
  rw [e]; unfold foldN; split <;> omega

theorem cut_part {p : PartM} (h : p.good) (r : List UInt8) : cutP (partB p ++ r) = some (p, r) := by
  obtain ⟨id, kind, n, s⟩ := p
  obtain ⟨h1, h2, h3⟩ := h
  simp only at h1 h2 h3
  have e6 : (128 : Nat) ^ (5 + 1) = 4398046511104 := by decide
  obtain ⟨hd, ed⟩ : ∃ hd, headN ⟨id, kind, n, s⟩ = hd := ⟨_, rfl⟩
  have hv : (hd : Int) = 4 * id + kind := by rw [← ed]; unfold headN; simp only; omega
  have hh : hd < 128 ^ (5 + 1) := by rw [e6]; omega
  unfold cutP partB
  rw [ed, List.append_assoc, cut_sev 5 _ true _ hh rfl]
  simp only
  rcases h3 with ⟨rfl, h4, h5, rfl⟩ | ⟨h4, rfl, h5⟩
  · simp only [if_true]
    rw [cut_sev 5 _ true _ (fold_lt h4 h5) rfl]
    simp only
    rw [if_pos (by omega), unfold_fold]
    simp only [Option.some.injEq, Prod.mk.injEq, PartM.mk.injEq, and_true]
    omega
  · have hk : ¬ kind = 0 := by omega
    simp only [if_neg hk]
    rw [List.append_assoc, cut_sev 5 _ true _ (by rw [e6]; omega) rfl]
    simp only
    have hl := bytes_len s
    rw [if_neg (by omega), if_neg (by rw [List.length_append]; omega), List.take_left' hl, List.drop_left' hl]
    simp only [Option.some.injEq, Prod.mk.injEq, PartM.mk.injEq, and_true, true_and]
    exact ⟨by omega, by omega⟩

theorem part_cut {l r : List UInt8} {p : PartM} (h : cutP l = some (p, r)) (hg : p.good) : l = partB p ++ r := by
  unfold cutP at h
  cases h1 : cutN 6 true l with
  | none => rw [h1] at h; cases h
  | some a =>
    obtain ⟨hd, r1⟩ := a
    rw [h1] at h
    simp only at h
    cases h2 : cutN 6 true r1 with
    | none => rw [h2] at h; cases h
    | some b =>
      obtain ⟨u, r2⟩ := b
      rw [h2] at h
      simp only at h
      obtain ⟨e1, _, _⟩ := sev_cut _ _ _ _ _ h1
      obtain ⟨e2, _, _⟩ := sev_cut _ _ _ _ _ h2
      by_cases hk : hd % 4 = 0
      · rw [if_pos hk] at h
        simp only [Option.some.injEq, Prod.mk.injEq] at h
        obtain ⟨rfl, rfl⟩ := h
        unfold partB headN
        simp only
        rw [if_pos trivial, fold_unfold, show (4 * ((hd / 4 : Nat) : Int) + 0).toNat = hd by omega, List.append_assoc, ← e2, ← e1]
      · rw [if_neg hk] at h
        by_cases hu : r2.length < u
        · rw [if_pos hu] at h; cases h
        · rw [if_neg hu] at h
          simp only [Option.some.injEq, Prod.mk.injEq] at h
          obtain ⟨rfl, rfl⟩ := h
          unfold partB headN
          simp only
          have hsz : (ByteArray.mk (r2.take u).toArray).size = u := by simp [ByteArray.size]; omega
          rw [if_neg (by omega), hsz, show (4 * ((hd / 4 : Nat) : Int) + ((hd % 4 : Nat) : Int)).toNat = hd by omega, List.append_assoc, List.append_assoc]
          simp only [List.take_append_drop]
          rw [← e2, ← e1]

theorem sev_ne (u : Nat) : 1 ≤ (sev u).length := by
  by_cases h : u < 128
  · rw [sev_small h]; simp
  · rw [sev_large h]; simp
theorem cutN_lt {l r : List UInt8} {u : Nat} {n : Nat} {f : Bool} (h : cutN n f l = some (u, r)) : r.length < l.length := by
  obtain ⟨e, _, _⟩ := sev_cut _ _ _ _ _ h
  have := sev_ne u
  rw [e, List.length_append]; omega
theorem cutP_lt {l r : List UInt8} {p : PartM} (h : cutP l = some (p, r)) : r.length < l.length := by
  unfold cutP at h
  cases h1 : cutN 6 true l with
  | none => rw [h1] at h; cases h
  | some a =>
    obtain ⟨hd, r1⟩ := a
    rw [h1] at h
    simp only at h
    cases h2 : cutN 6 true r1 with
    | none => rw [h2] at h; cases h
    | some b =>
      obtain ⟨u, r2⟩ := b
      rw [h2] at h
      simp only at h
      have a1 := cutN_lt h1
      have a2 := cutN_lt h2
      split at h
      · simp only [Option.some.injEq, Prod.mk.injEq] at h
        obtain ⟨_, rfl⟩ := h
        omega
      · split at h
        · cases h
        · simp only [Option.some.injEq, Prod.mk.injEq] at h
          obtain ⟨_, rfl⟩ := h
          rw [List.length_drop]; omega

/-- What Encode answers, the error's number and the bytes. -/
def encR (acc : List UInt8) : List PartM → Int × List UInt8
  | [] => (0, acc)
  | p :: r => if goodB p = true then (if 20000 < (acc ++ partB p).length then (7, []) else encR (acc ++ partB p) r) else (1, [])
/-- What Decode answers of bytes that are not too many. -/
def decR : Nat → List UInt8 → Option (List PartM)
  | _, [] => some []
  | 0, _ :: _ => none
  | f + 1, c :: l => match cutP (c :: l) with
    | none => none
    | some (p, r) => if goodB p = true then (decR f r).map (p :: ·) else none

theorem encR_ok : ∀ (ps : List PartM) (acc t : List UInt8), encR acc ps = (0, t) → t = acc ++ ps.flatMap partB ∧ (∀ p ∈ ps, p.good) ∧ (acc.length ≤ 20000 → t.length ≤ 20000)
  | [], acc, t, h => by
    simp only [encR, Prod.mk.injEq, true_and] at h
    subst h
    exact ⟨by simp, fun _ h => absurd h (List.not_mem_nil), fun h => h⟩
  | p :: r, acc, t, h => by
    rw [encR] at h
    cases hg : goodB p
    · rw [hg] at h; simp at h
    · rw [hg, if_pos rfl] at h
      split at h
      · simp at h
      · rename_i hle
        obtain ⟨h1, h2, h3⟩ := encR_ok r _ t h
        refine ⟨by rw [h1]; simp, fun q hq => ?_, fun _ => h3 (by omega)⟩
        rcases List.mem_cons.1 hq with rfl | hq
        · exact goodB_true.1 hg
        · exact h2 q hq

theorem encR_of : ∀ (ps : List PartM) (acc : List UInt8), (∀ p ∈ ps, p.good) → (acc ++ ps.flatMap partB).length ≤ 20000 → encR acc ps = (0, acc ++ ps.flatMap partB)
  | [], acc, _, _ => by simp [encR]
  | p :: r, acc, hg, hl => by
    rw [List.flatMap_cons, ← List.append_assoc] at hl ⊢
    rw [encR, if_pos (goodB_true.2 (hg p (List.mem_cons_self ..))), if_neg (by rw [List.length_append] at hl; omega)]
    exact encR_of r _ (fun q hq => hg q (List.mem_cons_of_mem _ hq)) hl

theorem dec_enc : ∀ (ps : List PartM) (f : Nat), (∀ p ∈ ps, p.good) → (ps.flatMap partB).length ≤ f → decR f (ps.flatMap partB) = some ps
  | [], f, _, _ => by cases f <;> simp [decR]
  | p :: r, f, hg, hf => by
    have hp := hg p (List.mem_cons_self ..)
    have hc := cut_part hp (r.flatMap partB)
    have hlt := cutP_lt hc
    rw [List.flatMap_cons] at hf ⊢
    obtain ⟨c, l, e⟩ : ∃ c l, partB p ++ r.flatMap partB = c :: l := by
      cases hh : partB p ++ r.flatMap partB with
      | nil => rw [hh] at hlt; simp at hlt
      | cons c l => exact ⟨c, l, rfl⟩
    rw [e] at hc hlt hf ⊢
    simp only [List.length_cons] at hlt hf
    cases f with
    | zero => omega
    | succ f =>
      rw [decR, hc]
      simp only
      rw [if_pos (goodB_true.2 hp), dec_enc r f (fun q hq => hg q (List.mem_cons_of_mem _ hq)) (by omega)]
      rfl

theorem enc_dec : ∀ (f : Nat) (l : List UInt8) (ps : List PartM), decR f l = some ps → (∀ p ∈ ps, p.good) ∧ l = ps.flatMap partB
  | f, [], ps, h => by
    have : ps = [] := by cases f <;> simpa [decR] using h
    subst this
    exact ⟨fun _ h => absurd h (List.not_mem_nil), rfl⟩
  | 0, c :: l, ps, h => by simp [decR] at h
  | f + 1, c :: l, ps, h => by
    rw [decR] at h
    cases hc : cutP (c :: l) with
    | none => rw [hc] at h; cases h
    | some a =>
      obtain ⟨p, r⟩ := a
      rw [hc] at h
      simp only at h
      cases hg : goodB p
      · rw [hg] at h; simp at h
      · rw [hg, if_pos rfl] at h
        obtain ⟨qs, hq, rfl⟩ := Option.map_eq_some_iff.1 h
        obtain ⟨h1, h2⟩ := enc_dec f r qs hq
        have hp := goodB_true.1 hg
        refine ⟨fun q hq => ?_, by rw [part_cut hc hp, h2, List.flatMap_cons]⟩
        rcases List.mem_cons.1 hq with rfl | hq
        · exact hp
        · exact h1 q hq
/-- Bytes enough are as good as more. -/
theorem decR_fuel : ∀ (f g : Nat) (l : List UInt8), l.length ≤ f → l.length ≤ g → decR f l = decR g l
  | f, g, [], _, _ => by cases f <;> cases g <;> simp [decR]
  | 0, _, _ :: _, h, _ => by simp at h
  | _ + 1, 0, _ :: _, _, h => by simp at h
  | f + 1, g + 1, c :: l, hf, hg => by
    rw [decR, decR]
    cases hc : cutP (c :: l) with
    | none => rfl
    | some a =>
      obtain ⟨p, r⟩ := a
      have := cutP_lt hc
      simp only [List.length_cons] at this hf hg
      simp only
      rw [decR_fuel f g r (by omega) (by omega)]
end Go.Proofs.YtmdpdgldmedebaaGreatDoor

namespace Go.Proofs.YtmdpdgldmedebaaGreatDoor
set_option linter.unusedSimpArgs false
set_option linter.unusedVariables false
open Go.RowKit

/-- A part, as its four cells bear it. -/
abbrev PartM.cells (p : PartM) : List Value := [.int .i64 p.id, .int .i64 p.kind, .int .i64 p.n, .string p.s]
def PartsAt (w : World) (s : SV) (l : List PartM) : Prop := SliceAt 4 (fun _ cs p => cs = p.cells) w s l
theorem PartsAt.ext {w w' : World} {s : SV} {l : List PartM} (h : PartsAt w s l) (he : Ext w w') : PartsAt w' s l := SliceAt.ext h he fun _ _ h => h
theorem range4 {w : World} {b o : Nat} {c0 c1 c2 c3 : Value} (h : w.rangeAt b o [c0, c1, c2, c3]) :
    w.cell? ⟨b, o, none⟩ = some c0 ∧ w.cell? ⟨b, o + 1, none⟩ = some c1 ∧ w.cell? ⟨b, o + 2, none⟩ = some c2 ∧ w.cell? ⟨b, o + 3, none⟩ = some c3 :=
  ⟨h 0 _ rfl, h 1 _ rfl, h 2 _ rfl, h 3 _ rfl⟩
theorem row4 {w : World} {g : Nat} {t : TypeId} {c0 c1 c2 c3 : Value} (hb : w.heap[g]? = some (.cells #[c0, c1, c2, c3] t (0, 0))) :
    w.cell? ⟨g, 0, none⟩ = some c0 ∧ w.cell? ⟨g, 1, none⟩ = some c1 ∧ w.cell? ⟨g, 2, none⟩ = some c2 ∧ w.cell? ⟨g, 3, none⟩ = some c3 ∧ ∀ j, w.frozen? ⟨g, j, none⟩ = false :=
  ⟨cell_of_row w g 0 _ t _ hb, cell_of_row w g 1 _ t _ hb, cell_of_row w g 2 _ t _ hb, cell_of_row w g 3 _ t _ hb, fun j => frozen_of_row w g j _ t hb⟩
end Go.Proofs.YtmdpdgldmedebaaGreatDoor

namespace Go.Proofs.YtmdpdgldmedebaaGreatDoor
set_option linter.unusedSimpArgs false
set_option linter.unusedVariables false
open Go.RowKit

end Go.Proofs.YtmdpdgldmedebaaGreatDoor

namespace Go.Proofs.YtmdpdgldmedebaaGreatDoor
set_option linter.unusedSimpArgs false
set_option linter.unusedVariables false
open Go.RowKit

theorem and_one (u : Nat) (h : u < 4398046511104) : bits .and .u64 (u : Int) 1 = ((u % 2 : Nat) : Int) := by
  have := bits_and_u64_nat u 1 (by omega) (by omega)
  rw [Nat.and_one_is_mod] at this
  exact this
theorem and_three (u : Nat) (h : u < 4398046511104) : bits .and .u64 (u : Int) 3 = ((u % 4 : Nat) : Int) := by
  have := bits_and_u64_nat u 3 (by omega) (by omega)
  have e : u &&& 3 = u % 4 := Nat.and_two_pow_sub_one_eq_mod u 2
  rw [e] at this
  exact this

set_option maxHeartbeats 400000 in
theorem unfold_any (u : Nat) (w : World) (hu : u < 4398046511104) :
    Calls Tryz.prog 104 #[.int .u64 u] w fun e w' => e = .returned (.int .i64 (unfoldN u)) ∧ w' = w := by
  have h1 := and_one u hu
  have E : Hid (unfoldN u = if u % 2 = 1 then -(u / 2 : Int) - 1 else (u / 2 : Int)) := rfl
  by_cases h : u % 2 = 1
  · rw [h] at h1
    go_enter Tryz.func104, Tryz.ntmps104
    go_wp2
    go_ret
    exact ⟨ret_int (by rw [unhide E, if_pos h]), rfl⟩
  · have h0 : u % 2 = 0 := by omega
    rw [h0] at h1
    go_enter Tryz.func104, Tryz.ntmps104
    go_wp2
    go_ret
    exact ⟨ret_int (by rw [unhide E, if_neg h]), rfl⟩
set_option maxHeartbeats 400000 in
theorem fold_any (n : Int) (w : World) (hn : -1099511627776 ≤ n) (hm : n ≤ 1099511627776) :
    Calls Tryz.prog 101 #[.int .i64 n] w fun e w' => e = .returned (.int .u64 (foldN n)) ∧ w' = w := by
  have E : Hid (foldN n = if n < 0 then (-2 * n - 1).toNat else (2 * n).toNat) := rfl
  by_cases h : n < 0
  · go_enter Tryz.func101, Tryz.ntmps101
    go_wp2
    go_ret
    exact ⟨ret_int (by rw [unhide E, if_pos h]; omega), rfl⟩
  · go_enter Tryz.func101, Tryz.ntmps101
    go_wp2
    go_ret
    exact ⟨ret_int (by rw [unhide E, if_neg (by omega)]; omega), rfl⟩
set_option maxHeartbeats 400000 in
theorem headOf_any (p : PartM) (w : World) (hg : p.good) :
    Calls Tryz.prog 100 #[.agg #[.int .i64 p.id, .int .i64 p.kind, .int .i64 p.n, .string p.s]] w fun e w' => e = .returned (.int .u64 (headN p)) ∧ Ext w w' := by
  obtain ⟨id, kind, n, s⟩ := p
  obtain ⟨h1, h2, h3⟩ := hg
  simp only at h1 h2 h3
  have h4 : 0 ≤ kind ∧ kind ≤ 2 := by omega
  have E : Hid (headN ⟨id, kind, n, s⟩ = (4 * id + kind).toNat) := rfl
  clear h3
  obtain ⟨i, rfl⟩ : ∃ i : Nat, id = i := ⟨id.toNat, by omega⟩
  obtain ⟨k, rfl⟩ : ∃ k : Nat, kind = k := ⟨kind.toNat, by omega⟩
  have hb : bits .or .u64 ((i : Int) * 4) (k : Int) = ((4 * i + k : Nat) : Int) := by
    have := bits_or_u64_nat (4 * i) k (by omega) (by omega)
    have e := Nat.two_pow_add_eq_or_of_lt (i := 2) (b := k) (by omega) i
    rw [show (2 : Nat) ^ 2 = 4 from rfl] at e
    rw [← e] at this
    rw [show (i : Int) * 4 = ((4 * i : Nat) : Int) by omega]
    exact this
  go_enter Tryz.func100, Tryz.ntmps100
  go_wp2
  go_ret
  exact ⟨ret_int (by rw [unhide E]; omega), (Ext.refl _).alloc _⟩
set_option maxHeartbeats 400000 in
theorem partOf_any (u : Nat) (w : World) (hu : u < 4398046511104) :
    Calls Tryz.prog 103 #[.int .u64 u] w fun e w' => e = .returned (.agg #[.int .i64 (u / 4 : Nat), .int .i64 (u % 4 : Nat), .int .i64 0, .string ⟨#[]⟩]) ∧ Ext w w' := by
  have h1 := and_three u hu
  go_enter Tryz.func103, Tryz.ntmps103
  go_wp2
  refine bodyPost_ret (v := .agg #[.int .i64 ((u : Int) / 4), .int .i64 ((u : Int) % 4), .int .i64 0, .string ⟨#[]⟩]) (by simp [results, Tryz.results103, go_sem]) rfl ⟨?_, (Ext.refl _).alloc _⟩
  rw [show ((u / 4 : Nat) : Int) = (u : Int) / 4 by omega, show ((u % 4 : Nat) : Int) = (u : Int) % 4 by omega]
end Go.Proofs.YtmdpdgldmedebaaGreatDoor

namespace Go.Proofs.YtmdpdgldmedebaaGreatDoor
set_option linter.unusedSimpArgs false
set_option linter.unusedVariables false
open Go.RowKit

theorem isEmpty_iff (s : ByteArray) : s.toList.isEmpty = true ↔ s = ⟨#[]⟩ := by
  rw [bytes_toList, List.isEmpty_iff]
  exact ⟨fun h => bytes_ext (by rw [h]), fun h => by rw [h]⟩
theorem goodB_eq {p : PartM} {b : Bool} (h : b = true ↔ p.good) : b = goodB p := by rw [Bool.eq_iff_iff, h, goodB_true]
set_option maxHeartbeats 1600000 in
theorem wgood_any (p : PartM) (w : World) (hs : p.s.size ≤ 9223372036854775807) :
    Calls Tryz.prog 77 #[.agg #[.int .i64 p.id, .int .i64 p.kind, .int .i64 p.n, .string p.s]] w fun e w' => e = .returned (.bool (goodB p)) ∧ Ext w w' := by
  obtain ⟨id, kind, n, s⟩ := p
  simp only at hs
  go_enter Tryz.func77, Tryz.ntmps77
  go_wp2
  all_goals go_ret
  all_goals refine ⟨ret_bool (goodB_eq ?_), (Ext.refl _).alloc _⟩
  all_goals simp only [PartM.good]
  all_goals try simp only [beq_iff_eq, beq_eq_false_iff_ne, ne_eq] at *
  all_goals (rw [← isEmpty_iff s] ; cases hse : s.toList.isEmpty <;> simp <;> omega)
end Go.Proofs.YtmdpdgldmedebaaGreatDoor

namespace Go.Proofs.YtmdpdgldmedebaaGreatDoor
set_option linter.unusedSimpArgs false
set_option linter.unusedVariables false
open Go.RowKit

theorem info5 : (Tryz.prog.info? 5).map (fun i => (i.zero, i.size, i.bytes)) = some (some (.int .u8 0), 1, 1) := by kernel_rfl
/-- Bytes, as cells. -/
def bcells (l : List UInt8) : List Value := l.map fun b => .int .u8 (b.toNat : Int)
theorem bcells_append (l m : List UInt8) : bcells (l ++ m) = bcells l ++ bcells m := by simp [bcells]
theorem bcells_len (l : List UInt8) : (bcells l).length = l.length := by simp [bcells]

/-- All rows of other elements than bytes are as they were. -/
def Keeps (w w' : World) : Prop := ∀ (g : Nat) (cs : Array Value) (t : TypeId) (fz : Nat × Nat), t ≠ 5 → w.heap[g]? = some (.cells cs t fz) → w'.heap[g]? = some (.cells cs t fz)
theorem Keeps.refl (w : World) : Keeps w w := fun _ _ _ _ _ h => h
theorem Keeps.trans {a b c : World} (h : Keeps a b) (k : Keeps b c) : Keeps a c := fun g cs t fz ht hg => k g cs t fz ht (h g cs t fz ht hg)
theorem Ext.keeps {a b : World} (h : Ext a b) : Keeps a b := fun _ _ _ _ _ hg => h.heap hg
theorem keeps_grown {w w' : World} {base : Nat} {v : Value} {n : Nat} {xs : List Value} (ho : w.ownsRow base 5 1 v n xs) (hg : w.grownBy w' v.ownBlock) : Keeps w w' := fun g cs t fz ht h => by
  rw [hg.block g (lt_of_heap h)]
  · exact h
  · intro e
    rcases ho.2 with ⟨rfl, _⟩ | ⟨g', cap, cur, rfl, _, hb, _⟩
    · simp [Value.ownBlock] at e
    · simp only [Value.ownBlock, Option.some.injEq] at e
      subst e
      rw [h] at hb
      simp only [Option.some.injEq, Obj.cells.injEq] at hb
      exact ht hb.2.1
theorem below_owned {B base : Nat} {a w w' : World} {e : TypeId} {size : Nat} {v : Value} {n : Nat} {xs : List Value} (h : Below B a w) (hz : B ≤ w.heap.size) (hg : w.grownBy w' v.ownBlock) (ho : w.ownsRow base e size v n xs) (hb : B ≤ base) : Below B a w' :=
  Below.grown h hg hz fun k hk => Nat.le_trans hb (ho.lt k hk).1

theorem sev_len : ∀ (n u : Nat), u < 128 ^ (n + 1) → (sev u).length ≤ n + 1
  | 0, u, h => by rw [sev_small (by simpa using h)]; simp
  | n + 1, u, h => by
    by_cases hu : u < 128
    · rw [sev_small hu]; simp
    · rw [sev_large hu]
      have := sev_len n (u / 128) (by rw [Nat.div_lt_iff_lt_mul (by omega), ← Nat.pow_succ]; exact h)
      simp only [List.length_cons]; omega
theorem sev_len6 {u : Nat} (h : u < 4398046511104) : (sev u).length ≤ 6 := sev_len 5 u h
theorem or_128 (u : Nat) : bits .or .u8 ((u : Int) % 256) 128 = ((u % 128 + 128 : Nat) : Int) := by
  have key : ∀ c : Fin 256, bits .or .u8 ((c.val : Nat) : Int) 128 = ((c.val % 128 + 128 : Nat) : Int) := by decide +kernel
  have := key ⟨u % 256, by omega⟩
  simp only at this
  rw [show (u : Int) % 256 = ((u % 256 : Nat) : Int) by omega, this]
  omega

set_option maxHeartbeats 1600000 in
set_option maxRecDepth 10000 in
theorem appendNumber_any (base : Nat) (v : Value) (l : List UInt8) (u : Nat) (w : World) (ho : w.ownsRow base 5 1 v l.length (bcells l)) (hbase : base ≤ w.heap.size) (hl : l.length ≤ 100000) (hu : u < 4398046511104) :
    Calls Tryz.prog 99 #[v, .int .u64 u] w fun e w' => ∃ v', e = .returned v' ∧ w'.ownsRow base 5 1 v' (l ++ sev u).length (bcells (l ++ sev u)) ∧ Below base w w' ∧ Keeps w w' := by
  have hsl := sev_len6 hu
  go_enter Tryz.func99, Tryz.ntmps99
  go_wp2
  go_loopw [0, 1] (fun o x wr => ∃ (l' : List UInt8) (u' : Nat), x = .int .u64 u' ∧ wr.ownsRow base 5 1 o l'.length (bcells l') ∧ l' ++ sev u' = l ++ sev u ∧ u' < 4398046511104 ∧ Below base w wr ∧ base ≤ wr.heap.size ∧ Keeps w wr) (fun _ x _ => (intOf x).toNat)
  case atStart => exact ⟨l, u, rfl, ho, rfl, hu, Below.refl _ _, hbase, Keeps.refl _⟩
  case round =>
    obtain ⟨l', u', rfl, ho', he, hu', hbl, hbz, hkp⟩ := hrel
    have hln : l'.length < 1048576 := by
      have := congrArg List.length he
      simp only [List.length_append] at this
      omega
    have He := hide he
    have Hln := hide hln
    have hor := or_128 u'
    clear he hln
    by_cases hlt : u' < 128
    · go_wp2_with (at_builtin; refine wpList_app1 _ _ 104 5 (.int .u8 0) 1 1 Tryz.underlying104 info5 rfl (by decide) (by decide) rfl rfl base _ l'.length _ rfl (ho'.alloc _) wr.heap.size 1 [.int .u8 u'] rfl rfl ?c1 ?c2 ?c3 ?c4 ?_)
      case c1 => exact range_of_new1 _ _ _ (by simp)
      case c2 => intro u hu; simp at hu; subst hu; rfl
      case c3 => exact Hln
      case c4 => simp; omega
      intro v1 w1 ho1 hg1
      have ho2 : w1.ownsRow base 5 1 v1 (l ++ sev u).length (bcells (l ++ sev u)) := by
        have e : l ++ sev u = l' ++ [UInt8.ofNat u'] := by rw [← unhide He, sev_small hlt]
        rw [e, List.length_append, bcells_append]
        simpa [bcells, byte_small hlt] using ho1
      have hx : Below base wr (wr.alloc (.cells #[.int .u8 u'] 5)) := (Below.refl _ _).alloc hbz _
      have hb1 : Below base wr w1 := below_owned hx (by simp; omega) hg1 (ho'.alloc _) (Nat.le_refl _)
      have hk1 : Keeps wr w1 := (((Ext.refl wr).alloc _).keeps).trans (keeps_grown (ho'.alloc _) hg1)
      go_wp2
      go_ret
      exact ⟨v1, rfl, ho2, hbl.trans hb1, hkp.trans hk1⟩
    · go_wp2_with (at_builtin; refine wpList_app1 _ _ 104 5 (.int .u8 0) 1 1 Tryz.underlying104 info5 rfl (by decide) (by decide) rfl rfl base _ l'.length _ rfl (ho'.alloc _) wr.heap.size 1 [.int .u8 (u' % 128 + 128 : Nat)] rfl rfl ?c1 ?c2 ?c3 ?c4 ?_)
      case c1 => exact range_of_new1 _ _ _ (by simp)
      case c2 => intro u hu; simp at hu; subst hu; rfl
      case c3 => exact Hln
      case c4 => simp; omega
      intro v1 w1 ho1 hg1
      have ho2 : w1.ownsRow base 5 1 v1 (l' ++ [UInt8.ofNat (u' % 128 + 128)]).length (bcells (l' ++ [UInt8.ofNat (u' % 128 + 128)])) := by
        rw [List.length_append, bcells_append, show bcells [UInt8.ofNat (u' % 128 + 128)] = [.int .u8 ((UInt8.ofNat (u' % 128 + 128)).toNat : Int)] from rfl, byte_large]
        exact ho1
      have e2 : Hid ((l' ++ [UInt8.ofNat (u' % 128 + 128)]) ++ sev (u' / 128) = l ++ sev u) := by
        unfold Hid
        rw [← unhide He, sev_large hlt]; simp
      have hx : Below base wr (wr.alloc (.cells #[.int .u8 (u' % 128 + 128 : Nat)] 5)) := (Below.refl _ _).alloc hbz _
      have hb1 : Below base wr w1 := below_owned hx (by simp; omega) hg1 (ho'.alloc _) (Nat.le_refl _)
      have hk1 : Keeps wr w1 := (((Ext.refl wr).alloc _).keeps).trans (keeps_grown (ho'.alloc _) hg1)
      have hz1 : base ≤ w1.heap.size := Nat.le_trans hbz hb1.size
      clear hor
      go_wp2
      go_roundw
      case rel => exact ⟨_, u' / 128, by go_num, ho2, e2, by omega, hbl.trans hb1, hz1, hkp.trans hk1⟩
      case measure => simp [intOf]; omega
end Go.Proofs.YtmdpdgldmedebaaGreatDoor

namespace Go.Proofs.YtmdpdgldmedebaaGreatDoor
set_option linter.unusedSimpArgs false
set_option linter.unusedVariables false
open Go.RowKit

theorem part_len {p : PartM} (h : p.good) : (partB p).length ≤ 20020 := by
  obtain ⟨id, kind, n, s⟩ := p
  obtain ⟨h1, h2, h3⟩ := h
  simp only at h1 h2 h3
  have e1 : (sev (headN ⟨id, kind, n, s⟩)).length ≤ 6 := sev_len6 (by unfold headN; simp only; omega)
  unfold partB
  rw [List.length_append]
  rcases h3 with ⟨rfl, h4, h5, _⟩ | ⟨h4, rfl, h5⟩
  · have e2 := sev_len6 (fold_lt h4 h5)
    simp only [if_true]; omega
  · have e2 : (sev s.size).length ≤ 6 := sev_len6 (by omega)
    have hk : ¬ kind = 0 := by omega
    simp only [if_neg hk]
    rw [List.length_append, bytes_len]; omega

theorem strCells_eq (s : ByteArray) : Lib.strCells s = bcells s.data.toList := rfl

set_option maxHeartbeats 1600000 in
set_option maxRecDepth 10000 in
theorem appendPart_any (base : Nat) (v : Value) (l : List UInt8) (p : PartM) (w : World) (ho : w.ownsRow base 5 1 v l.length (bcells l)) (hbase : base ≤ w.heap.size) (hl : l.length ≤ 20000) (hg : p.good) :
    Calls Tryz.prog 78 #[v, .agg #[.int .i64 p.id, .int .i64 p.kind, .int .i64 p.n, .string p.s]] w fun e w' => ∃ v', e = .returned v' ∧ w'.ownsRow base 5 1 v' (l ++ partB p).length (bcells (l ++ partB p)) ∧ Below base w w' ∧ Keeps w w' := by
  have hx0 : Ext w (w.alloc (.cells #[.int .i64 p.id, .int .i64 p.kind, .int .i64 p.n, .string p.s] 85)) := (Ext.refl w).alloc _
  have hb0 : Below base w (w.alloc (.cells #[.int .i64 p.id, .int .i64 p.kind, .int .i64 p.n, .string p.s] 85)) := (Below.refl _ _).alloc hbase _
  have hA0 := heap_alloc_new w (.cells #[.int .i64 p.id, .int .i64 p.kind, .int .i64 p.n, .string p.s] 85)
  have hpl : l.length + (partB p).length ≤ 40020 := by have := part_len hg; omega
  have EB : Hid (partB p = sev (headN p) ++ (if p.kind = 0 then sev (foldN p.n) else sev p.s.size ++ p.s.data.toList)) := rfl
  have hh : headN p < 4398046511104 := by
    obtain ⟨h1, h2, h3⟩ := hg
    unfold headN; omega
  have hsh := sev_len6 hh
  obtain ⟨hd, ehd⟩ : ∃ hd, headN p = hd := ⟨_, rfl⟩
  have Hho := hide (headOf_any p (w.alloc (.cells #[.int .i64 p.id, .int .i64 p.kind, .int .i64 p.n, .string p.s] 85)) hg)
  rw [ehd] at Hho EB hh hsh
  clear ehd
  have hg' := hide hg
  obtain ⟨id, kind, n, s⟩ := p
  simp only at hx0 hb0 hA0 EB Hho
  obtain ⟨h1, h2, h3⟩ := hg
  simp only at h1 h2 h3
  show Calls Tryz.prog 78 #[v, .agg #[.int .i64 id, .int .i64 kind, .int .i64 n, .string s]] w _
  go_enter Tryz.func78, Tryz.ntmps78
  go_wp2_with fail
  refine (unhide Hho).mono ?_
  rintro e w1 ⟨rfl, hx1⟩
  have ho1 := owns_ext ho (hx0.trans hx1)
  have hbz1 : base ≤ w1.heap.size := Nat.le_trans hbase (hx0.trans hx1).size
  go_wp2_with fail
  refine (appendNumber_any base v l hd w1 ho1 hbz1 (by omega) hh).mono ?_
  rintro e w2 ⟨v2, rfl, ho2, hb2, hk2⟩
  have hA2 := hk2 _ _ _ _ (by decide) (hx1.heap hA0)
  obtain ⟨c0, c1, c2, c3, cf⟩ := row4 hA2
  have hbz2 : base ≤ w2.heap.size := Nat.le_trans hbz1 hb2.size
  have hb02 : Below base w w2 := (hb0.trans (hx1.mono (by simp; omega))).trans hb2
  have hk02 : Keeps w w2 := (hx0.trans hx1).keeps.trans hk2
  have hl2 : (l ++ sev hd).length ≤ 100000 := by rw [List.length_append]; omega
  rcases h3 with ⟨rfl, h4, h5, rfl⟩ | ⟨h4, rfl, h5⟩
  · go_wp2_with fail
    refine (fold_any n w2 h4 h5).mono ?_
    rintro e w3 ⟨rfl, rfl⟩
    have hf := fold_lt h4 h5
    go_wp2_with fail
    refine (appendNumber_any base v2 (l ++ sev hd) (foldN n) w3 ho2 hbz2 hl2 hf).mono ?_
    rintro e w4 ⟨v4, rfl, ho4, hb4, hk4⟩
    go_wp2
    go_ret
    refine ⟨v4, rfl, ?_, hb02.trans hb4, hk02.trans hk4⟩
    have e : l ++ partB ⟨id, 0, n, ⟨#[]⟩⟩ = (l ++ sev hd) ++ sev (foldN n) := by rw [unhide EB, if_pos trivial, List.append_assoc]
    rw [e]
    exact ho4
  · have hk0 : ¬ kind = 0 := by omega
    go_wp2_with fail
    refine (appendNumber_any base v2 (l ++ sev hd) s.size w2 ho2 hbz2 hl2 (by omega)).mono ?_
    rintro e w4 ⟨v4, rfl, ho4, hb4, hk4⟩
    have hA4 := hk4 _ _ _ _ (by decide) hA2
    clear c0 c1 c2 c3 cf
    obtain ⟨c0, c1, c2, c3, cf⟩ := row4 hA4
    have hss : (sev s.size).length ≤ 6 := sev_len6 (by omega)
    have hl4 : ((l ++ sev hd) ++ sev s.size).length ≤ 100000 := by rw [List.length_append, List.length_append]; omega
    have hbz4 : base ≤ w4.heap.size := Nat.le_trans hbz2 hb4.size
    obtain ⟨i0, hi, hz0, hz1, hz2⟩ := info_parts info5
    go_wp2_with (at_builtin; refine Lib.wpList_append_own_string w4 rfl _ _ 104 9 rfl base 5 i0 Tryz.underlying104 Tryz.underlying9 hi hz0 hz1 hz2 v4 ((l ++ sev hd) ++ sev s.size).length (bcells ((l ++ sev hd) ++ sev s.size)) rfl ho4 s rfl ?c1 ?c2 hbz4 ?_)
    case c1 => unfold maxLen; omega
    case c2 => omega
    intro v5 w5 ho5 hg5 _
    go_wp2
    go_ret
    refine ⟨v5, rfl, ?_, hb02.trans (below_owned hb4 hbz4 hg5 ho4 (Nat.le_refl _)), (hk02.trans hk4).trans (keeps_grown ho4 hg5)⟩
    have e : l ++ partB ⟨id, kind, 0, s⟩ = ((l ++ sev hd) ++ sev s.size) ++ s.data.toList := by rw [unhide EB, if_neg hk0]; simp
    rw [e, List.length_append, bcells_append, bytes_len, List.append_assoc, List.length_append, List.length_append]
    exact ho5
end Go.Proofs.YtmdpdgldmedebaaGreatDoor

namespace Go.Proofs.YtmdpdgldmedebaaGreatDoor
set_option linter.unusedSimpArgs false
set_option linter.unusedVariables false
open Go.RowKit

theorem conv_own {w : World} {base : Nat} {v : Value} {l : List UInt8} (ho : w.ownsRow base 5 1 v l.length (bcells l)) : (convert 104 9 v).run Tryz.prog w = .ok (.string ⟨l.toArray⟩) w := by
  rcases ho.2 with ⟨rfl, h0⟩ | ⟨g, cap, cur, rfl, _, hg, hc, hm, hs, ht⟩
  · have : l = [] := List.length_eq_zero_iff.1 h0
    subst this
    exact run_convert_bytes_nil (P := Tryz.prog) _ 104 5 Tryz.underlying104 Tryz.underlying5 0 0 9 Tryz.underlying9
  · refine run_convert_bytes_back w 104 9 5 ⟨g, 0, none⟩ cap l Tryz.underlying104 Tryz.underlying5 Tryz.underlying9 fun j hj => ?_
    rw [Addr.add_mid, cell_of_row w g _ cur 5 _ hg, Nat.zero_add]
    have key : (bcells l)[j]? = some (.int .u8 (l[j].toNat : Int)) := by simp [bcells, hj]
    rw [← ht, List.getElem?_take, if_pos (by omega)] at key
    simpa using key

theorem drop_cons {α : Type} {l : List α} {k : Nat} (h : k < l.length) : l.drop k = l[k] :: l.drop (k + 1) := List.drop_eq_getElem_cons h
theorem encR_good {acc : List UInt8} {p : PartM} {r : List PartM} (h : goodB p = true) (h2 : (acc ++ partB p).length ≤ 20000) : encR acc (p :: r) = encR (acc ++ partB p) r := by
  rw [encR, if_pos h, if_neg (by omega)]
theorem encR_long {acc : List UInt8} {p : PartM} {r : List PartM} (h : goodB p = true) (h2 : 20000 < (acc ++ partB p).length) : encR acc (p :: r) = (7, []) := by
  rw [encR, if_pos h, if_pos h2]
theorem encR_bad {acc : List UInt8} {p : PartM} {r : List PartM} (h : goodB p = false) : encR acc (p :: r) = (1, []) := by
  rw [encR, if_neg (by simp [h])]

theorem owns_slice {w : World} {base : Nat} {e : TypeId} {size : Nat} {v : Value} {n : Nat} {xs : List Value} (h : w.ownsRow base e size v n xs) : ∃ (a : Option Addr) (c : Nat), v = .slice a n c := by
  rcases h.2 with ⟨rfl, rfl⟩ | ⟨g, cap, cur, rfl, _⟩
  · exact ⟨none, 0, rfl⟩
  · exact ⟨_, cap, rfl⟩
/-- The bytes that Encode answers, and its error. -/
def wencS (ps : List PartM) : ByteArray := ⟨(encR [] ps).2.toArray⟩
def encE (ps : List PartM) : Int := (encR [] ps).1
theorem enc_is {ps : List PartM} {e : Int} {l : List UInt8} (h : encR [] ps = (e, l)) : Ending.returned (.tuple #[.string ⟨l.toArray⟩, .int .i64 e]) = .returned (.tuple #[.string (wencS ps), .int .i64 (encE ps)]) := by
  unfold wencS encE; rw [h]

set_option maxHeartbeats 3200000 in
set_option maxRecDepth 10000 in
theorem encode_any (s : SV) (ps : List PartM) (w : World) (hs : PartsAt w s ps) (hn : ps.length ≤ 9223372036854775807) (hst : ∀ p ∈ ps, p.s.size ≤ 9223372036854775807) :
    Calls Tryz.prog 56 #[.slice s.a s.len s.cap] w fun e w' => e = .returned (.tuple #[.string (wencS ps), .int .i64 (encE ps)]) ∧ Ext w w' := by
  obtain ⟨a, n, cap⟩ := s
  obtain ⟨hl, hps⟩ := hs
  simp only at hl
  subst hl
  show Calls Tryz.prog 56 #[.slice a ps.length cap] w _
  go_enter Tryz.func56, Tryz.ntmps56
  go_wp2
  go_loopw [4, 9] (fun o i wr => ∃ (k : Nat) (l : List UInt8), i = .int .i64 k ∧ k ≤ ps.length ∧ wr.ownsRow w.heap.size 5 1 o l.length (bcells l) ∧ encR [] ps = encR l (ps.drop k) ∧ l.length ≤ 20000 ∧ Ext w wr) (fun _ i _ => ps.length - (intOf i).toNat)
  case atStart => exact ⟨0, [], rfl, by omega, World.ownsRow_nil _ _ _ _, by simp, by simp, Ext.refl _⟩
  case round =>
    obtain ⟨k, l, rfl, hk, ho, hE, hll, hx⟩ := hrel
    have HE := hide hE
    clear hE
    by_cases hlt : k < ps.length
    · obtain ⟨b, o, cs, rfl, hr, hcs⟩ := hps k ps[k] (by simp [hlt])
      have hsk := hst ps[k] (List.getElem_mem hlt)
      have HD := hide (drop_cons hlt)
      obtain ⟨p, hp⟩ : ∃ p, ps[k] = p := ⟨_, rfl⟩
      rw [hp] at hcs hsk HD
      subst hcs
      clear hp hps hst
      obtain ⟨c0, c1, c2, c3⟩ := range4 (hx.range hr)
      obtain ⟨gb, hg⟩ : ∃ gb, goodB p = gb := ⟨_, rfl⟩
      have hx0 : Ext wr (wr.alloc (.cells #[.int .i64 p.id, .int .i64 p.kind, .int .i64 p.n, .string p.s] 85)) := (Ext.refl _).alloc _
      have hA0 := heap_alloc_new wr (.cells #[.int .i64 p.id, .int .i64 p.kind, .int .i64 p.n, .string p.s] 85)
      have Hga := hide (wgood_any p (wr.alloc (.cells #[.int .i64 p.id, .int .i64 p.kind, .int .i64 p.n, .string p.s] 85)) hsk)
      rw [hg] at Hga
      go_wp2_with fail
      refine (unhide Hga).mono ?_
      rintro e w1 ⟨rfl, hx1⟩
      cases gb
      · have e : Hid (encR [] ps = (1, [])) := by
          unfold Hid
          rw [unhide HE, unhide HD, encR_bad hg]
        go_wp2
        go_ret2
        exact ⟨enc_is (unhide e), (hx.trans hx0).trans hx1⟩
      · have hx01 := hx0.trans hx1
        have hA1 := hx1.heap hA0
        obtain ⟨d0, d1, d2, d3, df⟩ := row4 hA1
        have hgp := goodB_true.1 hg
        have hz1 : w.heap.size ≤ w1.heap.size := (hx.trans hx01).size
        go_wp2_with fail
        refine (appendPart_any w.heap.size u4 l p w1 (owns_ext ho hx01) hz1 hll hgp).mono ?_
        rintro e w2 ⟨v2, rfl, ho2, hb2, hk2⟩
        obtain ⟨a2, c2', rfl⟩ := owns_slice ho2
        have hx2 : Ext w w2 := Below.trans (hx.trans hx01) hb2
        have hpl := part_len hgp
        have hlm : (l ++ partB p).length ≤ 40020 := by rw [List.length_append]; omega
        obtain ⟨l2, hl2⟩ : ∃ l2, l ++ partB p = l2 := ⟨_, rfl⟩
        by_cases hlong : 20000 < l2.length
        · have e : Hid (encR [] ps = (7, [])) := by
            unfold Hid
            rw [unhide HE, unhide HD, encR_long hg (by rw [hl2]; exact hlong)]
          rw [hl2] at ho2 hlm ⊢
          clear hl2
          go_wp2
          go_ret2
          exact ⟨enc_is (unhide e), hx2⟩
        · have e : Hid (encR [] ps = encR l2 (ps.drop (k + 1))) := by
            unfold Hid
            rw [unhide HE, unhide HD, encR_good hg (by rw [hl2]; omega), hl2]
          rw [hl2] at ho2 hlm ⊢
          clear hl2
          go_wp2
          go_roundw
          case rel => exact ⟨k + 1, l2, by go_num, by omega, ho2, e, by omega, hx2⟩
          case measure => simp [intOf]; omega
    · have e : Hid (encR [] ps = (0, l)) := by
        unfold Hid
        rw [unhide HE, List.drop_of_length_le (by omega), encR]
      have hcv := conv_own ho
      go_wp2
      go_ret2
      exact ⟨enc_is (unhide e), hx⟩
end Go.Proofs.YtmdpdgldmedebaaGreatDoor

