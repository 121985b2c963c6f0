import Derived.Test.YtnppgeiompimaaaDoorM5
import Derived.WalkKit
import Derived.Deep.MidRow
import Derived.Lib.AppendStr
import Derived.Laws.IdiomStrings
import Derived.Laws.BytesArg
/-
  What chapter 2 says of parts and bytes, as plain functions on lists, and the two ways round: what is written is read back, and what is read has just these bytes. Nothing of the program is named here.
-/
namespace Go.Proofs.YtnppgeiompimaaaDoor
set_option linter.unusedSimpArgs false
set_option linter.unusedVariables false
set_option linter.unusedSimpArgs false
set_option linter.unusedVariables false

/-- A number's bytes, seven bits each, the lowest first. -/
def sevF : Nat → Nat → List UInt8
  | 0, u => [UInt8.ofNat u]
  | f + 1, u => if u < 128 then [UInt8.ofNat u] else UInt8.ofNat (u % 128 + 128) :: sevF f (u / 128)
theorem sevF_fuel : ∀ (f g u : Nat), u ≤ f → u ≤ g → sevF f u = sevF g u
  | 0, 0, _, _, _ => rfl
  | 0, g + 1, u, hf, _ => by rw [sevF, sevF, if_pos (by omega)]
  | f + 1, 0, u, _, hg => by rw [sevF, sevF, if_pos (by omega)]
  | f + 1, g + 1, u, hf, hg => by
    rw [sevF, sevF]
    by_cases h : u < 128
    · rw [if_pos h, if_pos h]
    · rw [if_neg h, if_neg h, sevF_fuel f g (u / 128) (by omega) (by omega)]
def sev (u : Nat) : List UInt8 := sevF u u

theorem sev_small {u : Nat} (h : u < 128) : sev u = [UInt8.ofNat u] := by
  unfold sev
  cases u with
  | zero => rfl
  | succ u => rw [sevF, if_pos h]
theorem sev_large {u : Nat} (h : ¬ u < 128) : sev u = UInt8.ofNat (u % 128 + 128) :: sev (u / 128) := by
  unfold sev
  cases u with
  | zero => omega
  | succ u => rw [sevF, if_neg h, sevF_fuel u ((u + 1) / 128) ((u + 1) / 128) (by omega) (by omega)]

/-- The number that stands in front, of at most so many bytes, and what is behind it. -/
def cutN : Nat → Bool → List UInt8 → Option (Nat × List UInt8)
  | 0, _, _ => none
  | _ + 1, _, [] => none
  | n + 1, first, c :: r => if c.toNat < 128 then (if first || c.toNat != 0 then some (c.toNat, r) else none) else (cutN n false r).map fun p => (c.toNat - 128 + 128 * p.1, p.2)

theorem byte_small {u : Nat} (h : u < 128) : (UInt8.ofNat u).toNat = u := by rw [UInt8.toNat_ofNat']; omega
theorem byte_large (u : Nat) : (UInt8.ofNat (u % 128 + 128)).toNat = u % 128 + 128 := by rw [UInt8.toNat_ofNat']; omega

theorem cut_sev : ∀ (n u : Nat) (first : Bool) (r : List UInt8), u < 128 ^ (n + 1) → (first || u != 0) = true → cutN (n + 1) first (sev u ++ r) = some (u, r)
  | 0, u, first, r, hu, hf => by
    have h : u < 128 := by simpa using hu
    rw [sev_small h]
    simp only [List.cons_append, List.nil_append, cutN, byte_small h, if_pos h, hf, if_true]
  | n + 1, u, first, r, hu, hf => by
    by_cases h : u < 128
    · rw [sev_small h]
      simp only [List.cons_append, List.nil_append, cutN, byte_small h, if_pos h, hf, if_true]
    · rw [sev_large h]
      have h1 : u / 128 < 128 ^ (n + 1) := by rw [Nat.div_lt_iff_lt_mul (by omega), ← Nat.pow_succ]; exact hu
      have h2 : (false || (u / 128) != 0) = true := by simp; omega
      rw [List.cons_append, cutN, byte_large, if_neg (by omega), cut_sev n (u / 128) false r h1 h2]
      simp only [Option.map_some, Option.some.injEq, Prod.mk.injEq, and_true]
      omega

theorem sev_cut : ∀ (n : Nat) (first : Bool) (l : List UInt8) (u : Nat) (r : List UInt8), cutN n first l = some (u, r) → l = sev u ++ r ∧ u < 128 ^ n ∧ (first || u != 0) = true
  | 0, _, _, _, _, h => by simp [cutN] at h
  | _ + 1, _, [], _, _, h => by simp [cutN] at h
  | n + 1, first, c :: t, u, r, h => by
    rw [cutN] at h
    by_cases hc : c.toNat < 128
    · rw [if_pos hc] at h
      cases hf : (first || c.toNat != 0)
      · rw [hf] at h; simp at h
      · rw [hf] at h
        simp only [if_true, Option.some.injEq, Prod.mk.injEq] at h
        obtain ⟨rfl, rfl⟩ := h
        refine ⟨?_, ?_, hf⟩
        · rw [sev_small hc]; simp
        · exact Nat.lt_of_lt_of_le hc (Nat.le_self_pow (Nat.succ_ne_zero n) 128)
    · rw [if_neg hc] at h
      obtain ⟨⟨v, r'⟩, hv, he⟩ := Option.map_eq_some_iff.1 h
      simp only [Prod.mk.injEq] at he
      obtain ⟨rfl, rfl⟩ := he
      obtain ⟨h1, h2, h3⟩ := sev_cut n false t v r' hv
      have h4 : v ≠ 0 := by simpa using h3
      have hlt := c.toNat_lt
      refine ⟨?_, ?_, ?_⟩
      · rw [sev_large (by omega), show (c.toNat - 128 + 128 * v) % 128 + 128 = c.toNat by omega, show (c.toNat - 128 + 128 * v) / 128 = v by omega, h1]
        simp
      · rw [Nat.pow_succ]; omega
      · simp; omega

/-- A part. -/
structure PartM where
  id : Int
  kind : Int
  n : Int
  s : ByteArray

def PartM.good (p : PartM) : Prop := 1 ≤ p.id ∧ p.id ≤ 30 ∧ (p.kind = 0 ∧ -1099511627776 ≤ p.n ∧ p.n ≤ 1099511627776 ∧ p.s = ⟨#[]⟩ ∨ (p.kind = 1 ∨ p.kind = 2) ∧ p.n = 0 ∧ p.s.size ≤ 20000)
def goodB (p : PartM) : Bool := decide (1 ≤ p.id) && decide (p.id ≤ 30) && (decide (p.kind = 0) && decide (-1099511627776 ≤ p.n) && decide (p.n ≤ 1099511627776) && decide (p.s.size = 0) || (decide (p.kind = 1) || decide (p.kind = 2)) && decide (p.n = 0) && decide (p.s.size ≤ 20000))
theorem size_zero (s : ByteArray) : s.size = 0 ↔ s = ⟨#[]⟩ := by
  constructor
  · intro h
    cases s with | mk a =>
    have h2 : a.size = 0 := h
    rw [Array.size_eq_zero_iff] at h2
    rw [h2]
  · intro h; rw [h]; rfl
theorem goodB_true {p : PartM} : goodB p = true ↔ p.good := by
  unfold goodB PartM.good
  rw [← size_zero]
  simp only [Bool.and_eq_true, Bool.or_eq_true, decide_eq_true_eq]
  omega
theorem goodB_false {p : PartM} : goodB p = false ↔ ¬ p.good := by
  rw [← goodB_true]; simp

def foldN (n : Int) : Nat := if n < 0 then (-2 * n - 1).toNat else (2 * n).toNat
def unfoldN (u : Nat) : Int := if u % 2 = 1 then -(u / 2 : Int) - 1 else (u / 2 : Int)
theorem unfold_fold (n : Int) : unfoldN (foldN n) = n := by unfold unfoldN foldN; split <;> split <;> omega
theorem fold_unfold (u : Nat) : foldN (unfoldN u) = u := by unfold unfoldN foldN; split <;> split <;> omega
def headN (p : PartM) : Nat := (4 * p.id + p.kind).toNat

/-- A part's bytes. -/
def partB (p : PartM) : List UInt8 := sev (headN p) ++ (if p.kind = 0 then sev (foldN p.n) else sev p.s.size ++ p.s.data.toList)
/-- The part that stands in front, and what is behind it. -/
def cutP (l : List UInt8) : Option (PartM × List UInt8) :=
  match cutN 6 true l with
  | none => none
  | some (h, r) => match cutN 6 true r with
    | none => none
    | some (u, r') => if h % 4 = 0 then some (⟨(h / 4 : Nat), 0, unfoldN u, ⟨#[]⟩⟩, r') else if r'.length < u then none else some (⟨(h / 4 : Nat), (h % 4 : Nat), 0, ⟨(r'.take u).toArray⟩⟩, r'.drop u)

theorem bytes_ext {a b : ByteArray} (h : a.data.toList = b.data.toList) : a = b := by
  cases a with | mk a => cases b with | mk b => simp only [ByteArray.mk.injEq]; exact Array.toList_inj.1 h

theorem bytes_len (a : ByteArray) : a.data.toList.length = a.size := by rw [Array.length_toList]; rfl

theorem fold_lt {n : Int} (h1 : -1099511627776 ≤ n) (h2 : n ≤ 1099511627776) : foldN n < 128 ^ (5 + 1) := by
  have e : (128 : Nat) ^ (5 + 1) = 4398046511104 := by decide
  rw [e]; unfold foldN; split <;> omega

theorem cut_part {p : PartM} (h : p.good) (r : List UInt8) : cutP (partB p ++ r) = some (p, r) := by
  obtain ⟨id, kind, n, s⟩ := p
  obtain ⟨h1, h2, h3⟩ := h
  simp only at h1 h2 h3
  have e6 : (128 : Nat) ^ (5 + 1) = 4398046511104 := by decide
  obtain ⟨hd, ed⟩ : ∃ hd, headN ⟨id, kind, n, s⟩ = hd := ⟨_, rfl⟩
  have hv : (hd : Int) = 4 * id + kind := by rw [← ed]; unfold headN; simp only; omega
  have hh : hd < 128 ^ (5 + 1) := by rw [e6]; omega
  unfold cutP partB
  rw [ed, List.append_assoc, cut_sev 5 _ true _ hh rfl]
  simp only
  rcases h3 with ⟨rfl, h4, h5, rfl⟩ | ⟨h4, rfl, h5⟩
  · simp only [if_true]
    rw [cut_sev 5 _ true _ (fold_lt h4 h5) rfl]
    simp only
    rw [if_pos (by omega), unfold_fold]
    simp only [Option.some.injEq, Prod.mk.injEq, PartM.mk.injEq, and_true]
    omega
  · have hk : ¬ kind = 0 := by omega
    simp only [if_neg hk]
    rw [List.append_assoc, cut_sev 5 _ true _ (by rw [e6]; omega) rfl]
    simp only
    have hl := bytes_len s
    rw [if_neg (by omega), if_neg (by rw [List.length_append]; omega), List.take_left' hl, List.drop_left' hl]
    simp only [Option.some.injEq, Prod.mk.injEq, PartM.mk.injEq, and_true, true_and]
    exact ⟨by omega, by omega⟩

theorem part_cut {l r : List UInt8} {p : PartM} (h : cutP l = some (p, r)) (hg : p.good) : l = partB p ++ r := by
  unfold cutP at h
  cases h1 : cutN 6 true l with
  | none => rw [h1] at h; cases h
  | some a =>
    obtain ⟨hd, r1⟩ := a
    rw [h1] at h
    simp only at h
    cases h2 : cutN 6 true r1 with
    | none => rw [h2] at h; cases h
    | some b =>
      obtain ⟨u, r2⟩ := b
      rw [h2] at h
      simp only at h
      obtain ⟨e1, _, _⟩ := sev_cut _ _ _ _ _ h1
      obtain ⟨e2, _, _⟩ := sev_cut _ _ _ _ _ h2
      by_cases hk : hd % 4 = 0
      · rw [if_pos hk] at h
        simp only [Option.some.injEq, Prod.mk.injEq] at h
        obtain ⟨rfl, rfl⟩ := h
        unfold partB headN
        simp only
        rw [if_pos trivial, fold_unfold, show (4 * ((hd / 4 : Nat) : Int) + 0).toNat = hd by omega, List.append_assoc, ← e2, ← e1]
      · rw [if_neg hk] at h
        by_cases hu : r2.length < u
        · rw [if_pos hu] at h; cases h
        · rw [if_neg hu] at h
          simp only [Option.some.injEq, Prod.mk.injEq] at h
          obtain ⟨rfl, rfl⟩ := h
          unfold partB headN
          simp only
          have hsz : (ByteArray.mk (r2.take u).toArray).size = u := by simp [ByteArray.size]; omega
          rw [if_neg (by omega), hsz, show (4 * ((hd / 4 : Nat) : Int) + ((hd % 4 : Nat) : Int)).toNat = hd by omega, List.append_assoc, List.append_assoc]
          simp only [List.take_append_drop]
          rw [← e2, ← e1]

theorem sev_ne (u : Nat) : 1 ≤ (sev u).length := by
  by_cases h : u < 128
  · rw [sev_small h]; simp
  · rw [sev_large h]; simp
theorem cutN_lt {l r : List UInt8} {u : Nat} {n : Nat} {f : Bool} (h : cutN n f l = some (u, r)) : r.length < l.length := by
  obtain ⟨e, _, _⟩ := sev_cut _ _ _ _ _ h
  have := sev_ne u
  rw [e, List.length_append]; omega
theorem cutP_lt {l r : List UInt8} {p : PartM} (h : cutP l = some (p, r)) : r.length < l.length := by
  unfold cutP at h
  cases h1 : cutN 6 true l with
  | none => rw [h1] at h; cases h
  | some a =>
    obtain ⟨hd, r1⟩ := a
    rw [h1] at h
    simp only at h
    cases h2 : cutN 6 true r1 with
    | none => rw [h2] at h; cases h
    | some b =>
      obtain ⟨u, r2⟩ := b
      rw [h2] at h
      simp only at h
      have a1 := cutN_lt h1
      have a2 := cutN_lt h2
      split at h
      · simp only [Option.some.injEq, Prod.mk.injEq] at h
        obtain ⟨_, rfl⟩ := h
        omega
      · split at h
        · cases h
        · simp only [Option.some.injEq, Prod.mk.injEq] at h
          obtain ⟨_, rfl⟩ := h
          rw [List.length_drop]; omega

/-- What Encode answers, the error's number and the bytes. -/
def encR (acc : List UInt8) : List PartM → Int × List UInt8
  | [] => (0, acc)
  | p :: r => if goodB p = true then (if 20000 < (acc ++ partB p).length then (7, []) else encR (acc ++ partB p) r) else (1, [])
/-- What Decode answers of bytes that are not too many. -/
def decR : Nat → List UInt8 → Option (List PartM)
  | _, [] => some []
  | 0, _ :: _ => none
  | f + 1, c :: l => match cutP (c :: l) with
    | none => none
    | some (p, r) => if goodB p = true then (decR f r).map (p :: ·) else none

theorem encR_ok : ∀ (ps : List PartM) (acc t : List UInt8), encR acc ps = (0, t) → t = acc ++ ps.flatMap partB ∧ (∀ p ∈ ps, p.good) ∧ (acc.length ≤ 20000 → t.length ≤ 20000)
  | [], acc, t, h => by
    simp only [encR, Prod.mk.injEq, true_and] at h
    subst h
    exact ⟨by simp, fun _ h => absurd h (List.not_mem_nil), fun h => h⟩
  | p :: r, acc, t, h => by
    rw [encR] at h
    cases hg : goodB p
    · rw [hg] at h; simp at h
    · rw [hg, if_pos rfl] at h
      split at h
      · simp at h
      · rename_i hle
        obtain ⟨h1, h2, h3⟩ := encR_ok r _ t h
        refine ⟨by rw [h1]; simp, fun q hq => ?_, fun _ => h3 (by omega)⟩
        rcases List.mem_cons.1 hq with rfl | hq
        · exact goodB_true.1 hg
        · exact h2 q hq

theorem encR_of : ∀ (ps : List PartM) (acc : List UInt8), (∀ p ∈ ps, p.good) → (acc ++ ps.flatMap partB).length ≤ 20000 → encR acc ps = (0, acc ++ ps.flatMap partB)
  | [], acc, _, _ => by simp [encR]
  | p :: r, acc, hg, hl => by
    rw [List.flatMap_cons, ← List.append_assoc] at hl ⊢
    rw [encR, if_pos (goodB_true.2 (hg p (List.mem_cons_self ..))), if_neg (by rw [List.length_append] at hl; omega)]
    exact encR_of r _ (fun q hq => hg q (List.mem_cons_of_mem _ hq)) hl

theorem dec_enc : ∀ (ps : List PartM) (f : Nat), (∀ p ∈ ps, p.good) → (ps.flatMap partB).length ≤ f → decR f (ps.flatMap partB) = some ps
  | [], f, _, _ => by cases f <;> simp [decR]
  | p :: r, f, hg, hf => by
    have hp := hg p (List.mem_cons_self ..)
    have hc := cut_part hp (r.flatMap partB)
    have hlt := cutP_lt hc
    rw [List.flatMap_cons] at hf ⊢
    obtain ⟨c, l, e⟩ : ∃ c l, partB p ++ r.flatMap partB = c :: l := by
      cases hh : partB p ++ r.flatMap partB with
      | nil => rw [hh] at hlt; simp at hlt
      | cons c l => exact ⟨c, l, rfl⟩
    rw [e] at hc hlt hf ⊢
    simp only [List.length_cons] at hlt hf
    cases f with
    | zero => omega
    | succ f =>
      rw [decR, hc]
      simp only
      rw [if_pos (goodB_true.2 hp), dec_enc r f (fun q hq => hg q (List.mem_cons_of_mem _ hq)) (by omega)]
      rfl

theorem enc_dec : ∀ (f : Nat) (l : List UInt8) (ps : List PartM), decR f l = some ps → (∀ p ∈ ps, p.good) ∧ l = ps.flatMap partB
  | f, [], ps, h => by
    have : ps = [] := by cases f <;> simpa [decR] using h
    subst this
    exact ⟨fun _ h => absurd h (List.not_mem_nil), rfl⟩
  | 0, c :: l, ps, h => by simp [decR] at h
  | f + 1, c :: l, ps, h => by
    rw [decR] at h
    cases hc : cutP (c :: l) with
    | none => rw [hc] at h; cases h
    | some a =>
      obtain ⟨p, r⟩ := a
      rw [hc] at h
      simp only at h
      cases hg : goodB p
      · rw [hg] at h; simp at h
      · rw [hg, if_pos rfl] at h
        obtain ⟨qs, hq, rfl⟩ := Option.map_eq_some_iff.1 h
        obtain ⟨h1, h2⟩ := enc_dec f r qs hq
        have hp := goodB_true.1 hg
        refine ⟨fun q hq => ?_, by rw [part_cut hc hp, h2, List.flatMap_cons]⟩
        rcases List.mem_cons.1 hq with rfl | hq
        · exact hp
        · exact h1 q hq
/-- Bytes enough are as good as more. -/
theorem decR_fuel : ∀ (f g : Nat) (l : List UInt8), l.length ≤ f → l.length ≤ g → decR f l = decR g l
  | f, g, [], _, _ => by cases f <;> cases g <;> simp [decR]
  | 0, _, _ :: _, h, _ => by simp at h
  | _ + 1, 0, _ :: _, _, h => by simp at h
  | f + 1, g + 1, c :: l, hf, hg => by
    rw [decR, decR]
    cases hc : cutP (c :: l) with
    | none => rfl
    | some a =>
      obtain ⟨p, r⟩ := a
      have := cutP_lt hc
      simp only [List.length_cons] at this hf hg
      simp only
      rw [decR_fuel f g r (by omega) (by omega)]
end Go.Proofs.YtnppgeiompimaaaDoor

namespace Go.Proofs.YtnppgeiompimaaaDoor
set_option linter.unusedSimpArgs false
set_option linter.unusedVariables false
open Go.RowKit

/-- A part, as its four cells bear it. -/
abbrev PartM.cells (p : PartM) : List Value := [.int .i64 p.id, .int .i64 p.kind, .int .i64 p.n, .string p.s]
def PartsAt (w : World) (s : SV) (l : List PartM) : Prop := SliceAt 4 (fun _ cs p => cs = p.cells) w s l
theorem PartsAt.ext {w w' : World} {s : SV} {l : List PartM} (h : PartsAt w s l) (he : Ext w w') : PartsAt w' s l := SliceAt.ext h he fun _ _ h => h
theorem range4 {w : World} {b o : Nat} {c0 c1 c2 c3 : Value} (h : w.rangeAt b o [c0, c1, c2, c3]) :
    w.cell? ⟨b, o, none⟩ = some c0 ∧ w.cell? ⟨b, o + 1, none⟩ = some c1 ∧ w.cell? ⟨b, o + 2, none⟩ = some c2 ∧ w.cell? ⟨b, o + 3, none⟩ = some c3 :=
  ⟨h 0 _ rfl, h 1 _ rfl, h 2 _ rfl, h 3 _ rfl⟩
theorem row4 {w : World} {g : Nat} {t : TypeId} {c0 c1 c2 c3 : Value} (hb : w.heap[g]? = some (.cells #[c0, c1, c2, c3] t (0, 0))) :
    w.cell? ⟨g, 0, none⟩ = some c0 ∧ w.cell? ⟨g, 1, none⟩ = some c1 ∧ w.cell? ⟨g, 2, none⟩ = some c2 ∧ w.cell? ⟨g, 3, none⟩ = some c3 ∧ ∀ j, w.frozen? ⟨g, j, none⟩ = false :=
  ⟨cell_of_row w g 0 _ t _ hb, cell_of_row w g 1 _ t _ hb, cell_of_row w g 2 _ t _ hb, cell_of_row w g 3 _ t _ hb, fun j => frozen_of_row w g j _ t hb⟩
end Go.Proofs.YtnppgeiompimaaaDoor

namespace Go.Proofs.YtnppgeiompimaaaDoor
set_option linter.unusedSimpArgs false
set_option linter.unusedVariables false
open Go.RowKit

end Go.Proofs.YtnppgeiompimaaaDoor

namespace Go.Proofs.YtnppgeiompimaaaDoor
set_option linter.unusedSimpArgs false
set_option linter.unusedVariables false
open Go.RowKit

theorem and_one (u : Nat) (h : u < 4398046511104) : bits .and .u64 (u : Int) 1 = ((u % 2 : Nat) : Int) := by
  have := bits_and_u64_nat u 1 (by omega) (by omega)
  rw [Nat.and_one_is_mod] at this
  exact this
theorem and_three (u : Nat) (h : u < 4398046511104) : bits .and .u64 (u : Int) 3 = ((u % 4 : Nat) : Int) := by
  have := bits_and_u64_nat u 3 (by omega) (by omega)
  have e : u &&& 3 = u % 4 := Nat.and_two_pow_sub_one_eq_mod u 2
  rw [e] at this
  exact this

end Go.Proofs.YtnppgeiompimaaaDoor

namespace Go.Proofs.YtnppgeiompimaaaDoor
set_option linter.unusedSimpArgs false
set_option linter.unusedVariables false
open Go.RowKit

theorem isEmpty_iff (s : ByteArray) : s.toList.isEmpty = true ↔ s = ⟨#[]⟩ := by
  rw [bytes_toList, List.isEmpty_iff]
  exact ⟨fun h => bytes_ext (by rw [h]), fun h => by rw [h]⟩
theorem goodB_eq {p : PartM} {b : Bool} (h : b = true ↔ p.good) : b = goodB p := by rw [Bool.eq_iff_iff, h, goodB_true]
end Go.Proofs.YtnppgeiompimaaaDoor

namespace Go.Proofs.YtnppgeiompimaaaDoor
set_option linter.unusedSimpArgs false
set_option linter.unusedVariables false
open Go.RowKit

theorem info5 : (Tryd.prog.info? 5).map (fun i => (i.zero, i.size, i.bytes)) = some (some (.int .u8 0), 1, 1) := by kernel_rfl
/-- Bytes, as cells. -/
def bcells (l : List UInt8) : List Value := l.map fun b => .int .u8 (b.toNat : Int)
theorem bcells_append (l m : List UInt8) : bcells (l ++ m) = bcells l ++ bcells m := by simp [bcells]
theorem bcells_len (l : List UInt8) : (bcells l).length = l.length := by simp [bcells]

/-- All rows of other elements than bytes are as they were. -/
def Keeps (w w' : World) : Prop := ∀ (g : Nat) (cs : Array Value) (t : TypeId) (fz : Nat × Nat), t ≠ 5 → w.heap[g]? = some (.cells cs t fz) → w'.heap[g]? = some (.cells cs t fz)
theorem Keeps.refl (w : World) : Keeps w w := fun _ _ _ _ _ h => h
theorem Keeps.trans {a b c : World} (h : Keeps a b) (k : Keeps b c) : Keeps a c := fun g cs t fz ht hg => k g cs t fz ht (h g cs t fz ht hg)
theorem Ext.keeps {a b : World} (h : Ext a b) : Keeps a b := fun _ _ _ _ _ hg => h.heap hg
theorem keeps_grown {w w' : World} {base : Nat} {v : Value} {n : Nat} {xs : List Value} (ho : w.ownsRow base 5 1 v n xs) (hg : w.grownBy w' v.ownBlock) : Keeps w w' := fun g cs t fz ht h => by
  rw [hg.block g (lt_of_heap h)]
  · exact h
  · intro e
    rcases ho.2 with ⟨rfl, _⟩ | ⟨g', cap, cur, rfl, _, hb, _⟩
    · simp [Value.ownBlock] at e
    · simp only [Value.ownBlock, Option.some.injEq] at e
      subst e
      rw [h] at hb
      simp only [Option.some.injEq, Obj.cells.injEq] at hb
      exact ht hb.2.1
theorem below_owned {B base : Nat} {a w w' : World} {e : TypeId} {size : Nat} {v : Value} {n : Nat} {xs : List Value} (h : Below B a w) (hz : B ≤ w.heap.size) (hg : w.grownBy w' v.ownBlock) (ho : w.ownsRow base e size v n xs) (hb : B ≤ base) : Below B a w' :=
  Below.grown h hg hz fun k hk => Nat.le_trans hb (ho.lt k hk).1

theorem sev_len : ∀ (n u : Nat), u < 128 ^ (n + 1) → (sev u).length ≤ n + 1
  | 0, u, h => by rw [sev_small (by simpa using h)]; simp
  | n + 1, u, h => by
    by_cases hu : u < 128
    · rw [sev_small hu]; simp
    · rw [sev_large hu]
      have := sev_len n (u / 128) (by rw [Nat.div_lt_iff_lt_mul (by omega), ← Nat.pow_succ]; exact h)
      simp only [List.length_cons]; omega
theorem sev_len6 {u : Nat} (h : u < 4398046511104) : (sev u).length ≤ 6 := sev_len 5 u h
theorem or_128 (u : Nat) : bits .or .u8 ((u : Int) % 256) 128 = ((u % 128 + 128 : Nat) : Int) := by
  have key : ∀ c : Fin 256, bits .or .u8 ((c.val : Nat) : Int) 128 = ((c.val % 128 + 128 : Nat) : Int) := by decide +kernel
  have := key ⟨u % 256, by omega⟩
  simp only at this
  rw [show (u : Int) % 256 = ((u % 256 : Nat) : Int) by omega, this]
  omega

end Go.Proofs.YtnppgeiompimaaaDoor

namespace Go.Proofs.YtnppgeiompimaaaDoor
set_option linter.unusedSimpArgs false
set_option linter.unusedVariables false
open Go.RowKit

theorem part_len {p : PartM} (h : p.good) : (partB p).length ≤ 20020 := by
  obtain ⟨id, kind, n, s⟩ := p
  obtain ⟨h1, h2, h3⟩ := h
  simp only at h1 h2 h3
  have e1 : (sev (headN ⟨id, kind, n, s⟩)).length ≤ 6 := sev_len6 (by unfold headN; simp only; omega)
  unfold partB
  rw [List.length_append]
  rcases h3 with ⟨rfl, h4, h5, _⟩ | ⟨h4, rfl, h5⟩
  · have e2 := sev_len6 (fold_lt h4 h5)
    simp only [if_true]; omega
  · have e2 : (sev s.size).length ≤ 6 := sev_len6 (by omega)
    have hk : ¬ kind = 0 := by omega
    simp only [if_neg hk]
    rw [List.length_append, bytes_len]; omega

theorem strCells_eq (s : ByteArray) : Lib.strCells s = bcells s.data.toList := rfl

end Go.Proofs.YtnppgeiompimaaaDoor

namespace Go.Proofs.YtnppgeiompimaaaDoor
set_option linter.unusedSimpArgs false
set_option linter.unusedVariables false
open Go.RowKit

theorem drop_cons {α : Type} {l : List α} {k : Nat} (h : k < l.length) : l.drop k = l[k] :: l.drop (k + 1) := List.drop_eq_getElem_cons h
theorem encR_good {acc : List UInt8} {p : PartM} {r : List PartM} (h : goodB p = true) (h2 : (acc ++ partB p).length ≤ 20000) : encR acc (p :: r) = encR (acc ++ partB p) r := by
  rw [encR, if_pos h, if_neg (by omega)]
theorem encR_long {acc : List UInt8} {p : PartM} {r : List PartM} (h : goodB p = true) (h2 : 20000 < (acc ++ partB p).length) : encR acc (p :: r) = (7, []) := by
  rw [encR, if_pos h, if_pos h2]
theorem encR_bad {acc : List UInt8} {p : PartM} {r : List PartM} (h : goodB p = false) : encR acc (p :: r) = (1, []) := by
  rw [encR, if_neg (by simp [h])]

theorem owns_slice {w : World} {base : Nat} {e : TypeId} {size : Nat} {v : Value} {n : Nat} {xs : List Value} (h : w.ownsRow base e size v n xs) : ∃ (a : Option Addr) (c : Nat), v = .slice a n c := by
  rcases h.2 with ⟨rfl, rfl⟩ | ⟨g, cap, cur, rfl, _⟩
  · exact ⟨none, 0, rfl⟩
  · exact ⟨_, cap, rfl⟩
/-- The bytes that Encode answers, and its error. -/
def wencS (ps : List PartM) : ByteArray := ⟨(encR [] ps).2.toArray⟩
def encE (ps : List PartM) : Int := (encR [] ps).1
theorem enc_is {ps : List PartM} {e : Int} {l : List UInt8} (h : encR [] ps = (e, l)) : Ending.returned (.tuple #[.string ⟨l.toArray⟩, .int .i64 e]) = .returned (.tuple #[.string (wencS ps), .int .i64 (encE ps)]) := by
  unfold wencS encE; rw [h]

end Go.Proofs.YtnppgeiompimaaaDoor

