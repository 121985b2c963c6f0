import Derived.Test.YtnppgeiompimaaaGreatDoorM38
import Derived.Lib.SliceRun
import Derived.Laws.CopyRow
namespace Go.Proofs.YtnppgeiompimaaaGreatDoor
set_option linter.unusedSimpArgs false
set_option linter.unusedVariables false
set_option linter.unusedSimpArgs false
set_option linter.unusedVariables false
open Go.RowKit

def sameF (x y : FlawM) : Bool := (x.type.toList == y.type.toList) && (x.id == y.id) && (x.why == y.why)
def diffAt (l : List FlawM) (n : Nat) : Bool := match l[n]?, l[n - 1]? with
  | some x, some y => !sameF x y
  | _, _ => true
/-- Of a list's first n, those that are not as the one ahead. -/
def compK (l : List FlawM) : Nat → List FlawM
  | 0 => []
  | n + 1 => compK l n ++ (if n = 0 ∨ diffAt l n = true then l[n]?.toList else [])
def compM (l : List FlawM) : List FlawM := compK l l.length
theorem diff_eq {l : List FlawM} {n : Nat} (h : n < l.length) : diffAt l n = !sameF l[n] (l[n - 1]'(by omega)) := by
  unfold diffAt
  rw [List.getElem?_eq_getElem h, List.getElem?_eq_getElem (show n - 1 < l.length by omega)]
theorem compK_le (l : List FlawM) : ∀ n, (compK l n).length ≤ n
  | 0 => by simp [compK]
  | n + 1 => by
    have := compK_le l n
    rw [compK, List.length_append]
    split
    · cases l[n]? <;> simp <;> omega
    · simp; omega
theorem compK_succ_same {l : List FlawM} {n : Nat} (h0 : n ≠ 0) (h : n < l.length) (hs : sameF l[n] (l[n - 1]'(by omega)) = true) : compK l (n + 1) = compK l n := by
  rw [compK, if_neg (by rw [diff_eq h, hs]; simp [h0]), List.append_nil]
theorem compK_succ_diff {l : List FlawM} {n : Nat} (h : n < l.length) (hs : n = 0 ∨ sameF l[n] (l[n - 1]'(by omega)) = false) : compK l (n + 1) = compK l n ++ [l[n]] := by
  rw [compK, if_pos, List.getElem?_eq_getElem h]; rfl
  rcases hs with h0 | hs
  · exact .inl h0
  · exact .inr (by rw [diff_eq h, hs]; rfl)
theorem compK_pos (l : List FlawM) (hl : l ≠ []) : ∀ n, 1 ≤ n → 1 ≤ (compK l n).length
  | 0, h => by omega
  | 1, _ => by
    cases l with
    | nil => exact absurd rfl hl
    | cons x l => simp [compK]
  | n + 2, _ => by
    have := compK_pos l hl (n + 1) (by omega)
    rw [compK, List.length_append]; omega
theorem compM_nil {l : List FlawM} : compM l = [] ↔ l = [] := by
  constructor
  · intro h
    cases l with
    | nil => rfl
    | cons x l =>
      have := compK_pos (x :: l) (by simp) (x :: l).length (by simp)
      unfold compM at h
      rw [h] at this; simp at this
  · rintro rfl; rfl
theorem compK_one {l : List FlawM} (h : 0 < l.length) : compK l 1 = l.take 1 := by
  cases l with
  | nil => simp at h
  | cons x l => simp [compK]

/-- A row of the call's own of three cells an element, by its block. -/
theorem own3_parts {w : World} {base n cap : Nat} {a : Option Addr} {xs : List Value} (h : w.ownsRow base 62 3 (.slice a n cap) n xs) (hn : 0 < n) :
    ∃ g c, a = some ⟨g, 0, none⟩ ∧ base ≤ g ∧ w.heap[g]? = some (.cells (List.toArray c) 62 (0, 0)) ∧ n ≤ cap ∧ cap ≤ maxLen ∧ c.length = cap * 3 ∧ c.take (n * 3) = xs := by
  rcases h.2 with ⟨_, e⟩ | ⟨g, cap', cur, e, hb, hg, hc, hm, hs, ht⟩
  · omega
  · simp only [Value.slice.injEq] at e
    obtain ⟨rfl, _, rfl⟩ := e
    refine ⟨g, cur.toList, rfl, hb, by simpa using hg, hc, hm, by simpa using hs, ht⟩
theorem set3_list (c : List Value) (i : Nat) (a0 a1 a2 : Value) (h : i + 3 ≤ c.length) : ((c.set i a0).set (i + 1) a1).set (i + 2) a2 = c.take i ++ [a0, a1, a2] ++ c.drop (i + 3) := by
  obtain ⟨A, B, rfl, rfl⟩ : ∃ A B, c = A ++ B ∧ A.length = i := ⟨c.take i, c.drop i, by simp, by simp; omega⟩
  rcases B with _ | ⟨b0, _ | ⟨b1, _ | ⟨b2, D⟩⟩⟩
  · exfalso; simp only [List.length_append, List.length_nil, List.length_cons] at h; omega
  · exfalso; simp only [List.length_append, List.length_nil, List.length_cons] at h; omega
  · exfalso; simp only [List.length_append, List.length_nil, List.length_cons] at h; omega
  · simp [List.set_append, List.take_append, List.drop_append]
theorem ext_grown {w w' : World} (h : Ext w w') (row : Option Nat) : w.grownBy w' row := ⟨Below.os h, Below.tape h, Below.output h, h.size, fun _ hb _ => Below.block h _ hb⟩
theorem grown_trans {a w w' : World} {row : Option Nat} (h : a.grownBy w row) (k : w.grownBy w' row) : a.grownBy w' row :=
  ⟨k.os.trans h.os, k.tape.trans h.tape, k.output.trans h.output, Nat.le_trans h.size k.size, fun i hi hr => (k.block i (Nat.lt_of_lt_of_le hi h.size) hr).trans (h.block i hi hr)⟩
theorem setRow3 {w : World} {g i : Nat} {c : List Value} (a0 a1 a2 : Value) (hg : w.heap[g]? = some (.cells c.toArray 62 (0, 0))) (hi : i + 3 ≤ c.length) :
    (((w.setCell ⟨g, i, none⟩ a0).setCell ⟨g, i + 1, none⟩ a1).setCell ⟨g, i + 2, none⟩ a2).heap[g]? = some (.cells (c.take i ++ [a0, a1, a2] ++ c.drop (i + 3)).toArray 62 (0, 0)) ∧
    w.grownBy (((w.setCell ⟨g, i, none⟩ a0).setCell ⟨g, i + 1, none⟩ a1).setCell ⟨g, i + 2, none⟩ a2) (some g) := by
  constructor
  · have h1 := heap_setCell_same w g i _ 62 a0 hg
    have h2 := heap_setCell_same _ g (i + 1) _ 62 a1 h1
    have h3 := heap_setCell_same _ g (i + 2) _ 62 a2 h2
    rw [h3, ← set3_list c i a0 a1 a2 hi]
    simp
  · exact grown_trans (grown_trans (grownBy_set1 w g _ _) (grownBy_set1 _ g _ _)) (grownBy_set1 _ g _ _)
end Go.Proofs.YtnppgeiompimaaaGreatDoor

namespace Go.Proofs.YtnppgeiompimaaaGreatDoor
set_option linter.unusedSimpArgs false
set_option linter.unusedVariables false
open Go.RowKit

theorem eqlW (x y : FlawM) (w : World) : (binOp .eql 62 (.agg #[.string x.type, .int .i64 x.id, .int .i64 x.why]) (.agg #[.string y.type, .int .i64 y.id, .int .i64 y.why])).run Tryz.prog w = .ok (.bool (sameF x y)) w := by
  obtain ⟨a, b, c⟩ := x
  obtain ⟨d, e, f⟩ := y
  unfold sameF
  by_cases h0 : a.toList = d.toList
  case neg => simp [go_sem, h0]
  by_cases h1 : b = e
  case neg => simp [go_sem, h0, h1]
  by_cases h2 : c = f
  case neg => simp [go_sem, h0, h1, h2]
  simp [go_sem, h0, h1, h2]
theorem neqW (x y : FlawM) (w : World) : (binOp .neq 62 (.agg #[.string x.type, .int .i64 x.id, .int .i64 x.why]) (.agg #[.string y.type, .int .i64 y.id, .int .i64 y.why])).run Tryz.prog w = .ok (.bool (!sameF x y)) w := by
  obtain ⟨a, b, c⟩ := x
  obtain ⟨d, e, f⟩ := y
  unfold sameF
  by_cases h0 : a.toList = d.toList
  case neg => simp [go_sem, h0]
  by_cases h1 : b = e
  case neg => simp [go_sem, h0, h1]
  by_cases h2 : c = f
  case neg => simp [go_sem, h0, h1, h2]
  simp [go_sem, h0, h1, h2]
/-- Three cells of a row. -/
theorem cells3 {w : World} {g : Nat} {c : List Value} (hg : w.heap[g]? = some (.cells c.toArray 62 (0, 0))) {l : List FlawM} {i d : Nat} {x : FlawM} (hx : l[i]? = some x) (hc : ∀ t, t < 3 → c[i * 3 + t]? = (l.flatMap encW)[i * 3 + t]?) (hd : d = i * 3) :
    w.cell? ⟨g, d, none⟩ = some (.string x.type) ∧ w.cell? ⟨g, d + 1, none⟩ = some (.int .i64 x.id) ∧ w.cell? ⟨g, d + 2, none⟩ = some (.int .i64 x.why) := by
  subst hd
  have hk : ∀ t, t < 3 → w.cell? ⟨g, i * 3 + t, none⟩ = (encW x)[t]? := fun t ht => by
    rw [cell_of_row w g _ _ 62 _ hg]
    simp only [List.getElem?_toArray]
    rw [hc t ht, flat_get (k := 3) encW (fun _ => rfl) l i t x hx ht]
  exact ⟨hk 0 (by omega), hk 1 (by omega), hk 2 (by omega)⟩
/-- What the inner loop has made: kk elements kept of the first m, the rest from m - 1 on as it was. -/
def CompAt (w0 w : World) (g cap : Nat) (l : List FlawM) (kk m : Nat) : Prop :=
  ∃ c : List Value, w.heap[g]? = some (.cells c.toArray 62 (0, 0)) ∧ c.length = cap * 3 ∧ kk = (compK l m).length ∧ c.take (kk * 3) = (compK l m).flatMap encW ∧ (∀ j, m ≤ j + 1 → j < l.length → ∀ t, t < 3 → c[j * 3 + t]? = (l.flatMap encW)[j * 3 + t]?) ∧ w0.grownBy w (some g)
theorem take_flat {α : Type} {k : Nat} (enc : α → List Value) (hk : ∀ x, (enc x).length = k) : ∀ (l : List α) (i : Nat), (l.flatMap enc).take (i * k) = (l.take i).flatMap enc
  | [], i => by simp
  | x :: l, 0 => by simp
  | x :: l, i + 1 => by
    rw [List.flatMap_cons, List.take_append, hk, List.take_of_length_le (by rw [hk, Nat.add_mul]; omega), show (i + 1) * k - k = i * k by rw [Nat.add_mul]; omega, take_flat enc hk l i]
    rfl
theorem compK_mono {l : List FlawM} {n : Nat} (h : compK l n = l.take n) (hn : n ≤ l.length) : (compK l n).length = n := by rw [h, List.length_take]; omega
theorem CompAt.ext {w0 w w' : World} {g cap kk m : Nat} {l : List FlawM} (h : CompAt w0 w g cap l kk m) (he : Ext w w') : CompAt w0 w' g cap l kk m := by
  obtain ⟨c, h1, h2, h3, h4, h5, h6⟩ := h
  exact ⟨c, he.heap h1, h2, h3, h4, h5, grown_trans h6 (ext_grown he _)⟩
theorem CompAt.start {w0 w : World} {g cap k : Nat} {l : List FlawM} {c : List Value} (hg : w.heap[g]? = some (.cells c.toArray 62 (0, 0))) (hc : c.length = cap * 3) (ht : c.take (l.length * 3) = l.flatMap encW) (hgr : w0.grownBy w (some g)) (h0 : k ≠ 0) (hk : k < l.length) (hq : compK l k = l.take k) {x y : FlawM} (hx : l[k]? = some x) (hy : l[k - 1]? = some y) (hs : sameF x y = true) :
    CompAt w0 w g cap l k (k + 1) := by
  have e1 := (List.getElem?_eq_some_iff.1 hx).2
  have e2 := (List.getElem?_eq_some_iff.1 hy).2
  have e : compK l (k + 1) = l.take k := by rw [compK_succ_same h0 hk (by rw [e1, e2]; exact hs), hq]
  refine ⟨c, hg, hc, by rw [e, List.length_take]; omega, ?_, fun j hj hjl t ht' => ?_, hgr⟩
  · rw [e, ← take_flat (k := 3) encW (fun _ => rfl), ← ht, List.take_take, Nat.min_eq_left (by omega)]
  · rw [← ht, List.getElem?_take, if_pos (by omega)]
theorem CompAt.same {w0 w : World} {g cap kk m : Nat} {l : List FlawM} (h : CompAt w0 w g cap l kk m) (h0 : m ≠ 0) (hm : m < l.length) {x y : FlawM} (hx : l[m]? = some x) (hy : l[m - 1]? = some y) (hs : sameF x y = true) : CompAt w0 w g cap l kk (m + 1) := by
  obtain ⟨c, h1, h2, h3, h4, h5, h6⟩ := h
  have e1 := (List.getElem?_eq_some_iff.1 hx).2
  have e2 := (List.getElem?_eq_some_iff.1 hy).2
  have e : compK l (m + 1) = compK l m := compK_succ_same h0 hm (by rw [e1, e2]; exact hs)
  exact ⟨c, h1, h2, by rw [e]; exact h3, by rw [e]; exact h4, fun j hj => h5 j (by omega), h6⟩
theorem CompAt.diff {w0 w : World} {g cap kk m : Nat} {l : List FlawM} (h : CompAt w0 w g cap l kk m) (hkk : kk + 1 ≤ m) (hm : m < l.length) (hn : l.length ≤ cap) {x y : FlawM} (hx : l[m]? = some x) (hy : l[m - 1]? = some y) (hs : sameF x y = false) :
    CompAt w0 (((w.setCell ⟨g, kk * 3, none⟩ (.string x.type)).setCell ⟨g, kk * 3 + 1, none⟩ (.int .i64 x.id)).setCell ⟨g, kk * 3 + 2, none⟩ (.int .i64 x.why)) g cap l (kk + 1) (m + 1) := by
  obtain ⟨c, h1, h2, h3, h4, h5, h6⟩ := h
  have e1 := (List.getElem?_eq_some_iff.1 hx).2
  have e2 := (List.getElem?_eq_some_iff.1 hy).2
  have e : compK l (m + 1) = compK l m ++ [x] := by rw [compK_succ_diff hm (.inr (by rw [e1, e2]; exact hs)), e1]
  have hl : kk * 3 + 3 ≤ c.length := by rw [h2]; have : l.length * 3 ≤ cap * 3 := Nat.mul_le_mul_right 3 hn; omega
  obtain ⟨s1, s2⟩ := setRow3 (.string x.type) (.int .i64 x.id) (.int .i64 x.why) h1 hl
  refine ⟨_, s1, ?_, by rw [e, List.length_append, ← h3]; rfl, ?_, fun j hj hjl t ht => ?_, grown_trans h6 s2⟩
  · simp only [List.length_append, List.length_take, List.length_drop, List.length_cons, List.length_nil]; omega
  · rw [e, List.flatMap_append, ← h4, show (kk + 1) * 3 = kk * 3 + 3 by omega]
    rw [List.take_append_of_le_length (by simp only [List.length_append, List.length_take, List.length_cons, List.length_nil]; omega), List.take_of_length_le (by simp only [List.length_append, List.length_take, List.length_cons, List.length_nil]; omega)]
    rfl
  · rw [← h5 j (by omega) hjl t ht, List.getElem?_append_right (by simp only [List.length_append, List.length_take, List.length_cons, List.length_nil]; omega), List.getElem?_drop]
    congr 1
    simp only [List.length_append, List.length_take, List.length_cons, List.length_nil]; omega
/-- What is kept, as a row of the call's own, behind the clearing of the rest. -/
theorem CompAt.done {w0 w : World} {base g cap kk : Nat} {l : List FlawM} (h : CompAt w0 w g cap l kk l.length) (hb : base ≤ g) (hn : l.length ≤ cap) (hcm : cap ≤ maxLen) (hk : kk < l.length) :
    ∃ W, (∀ ty, (Builtin.clear_ #[26] ty #[.slice (some ⟨g, kk * 3, none⟩) (l.length - kk) (cap - kk)]).run Tryz.prog w = .ok (.tuple #[]) W) ∧ W.ownsRow base 62 3 (.slice (some ⟨g, 0, none⟩) kk cap) (compM l).length ((compM l).flatMap encW) ∧ w0.grownBy W (some g) := by
  obtain ⟨c, h1, h2, h3, h4, h5, h6⟩ := h
  obtain ⟨zs, hzs⟩ : ∃ zs, zs = (Builtin.zeroCells (#[.string ⟨#[]⟩, .int .i64 0, .int .i64 0] : Array Value) (l.length - kk)).toList := ⟨_, rfl⟩
  have hzl : zs.length = (l.length - kk) * 3 := by rw [hzs]; simp [Builtin.zeroCells]
  have hz1 : ∀ u ∈ zs, u.oneCell' = true := by
    intro u hu
    rw [hzs] at hu
    simp only [Builtin.zeroCells, Array.toList_map, List.mem_map, Array.toList_range, List.mem_range] at hu
    obtain ⟨i, _, rfl⟩ := hu
    have : i % 3 = 0 ∨ i % 3 = 1 ∨ i % 3 = 2 := by omega
    show (#[Value.string ⟨#[]⟩, .int .i64 0, .int .i64 0] : Array Value)[i % 3]!.oneCell' = true
    rcases this with e | e | e <;> rw [e] <;> rfl
  have hcl : l.length * 3 ≤ c.length := by rw [h2]; exact Nat.mul_le_mul_right 3 hn
  have hst := run_storeCells_at (P := Tryz.prog) g (kk * 3) 62 zs 0 c.toArray w h1 (by simp; omega) hz1
  refine ⟨w.setRow g (c.take (kk * 3) ++ zs ++ c.drop (kk * 3 + zs.length)).toArray, fun ty => ?_, ?_, ?_⟩
  · obtain ⟨m, hm⟩ : ∃ m, l.length - kk = m + 1 := ⟨l.length - kk - 1, by omega⟩
    rw [hm] at hzs ⊢
    simp only [Nat.add_zero] at hst
    simp [Builtin.clear_, run_underlying Tryz.underlying26, Tryz.zeroValue62, ← hzs, hst, go_sem]
  · refine ⟨by rw [flat_len (k := 3) encW fun _ => rfl], .inr ⟨g, cap, (c.take (kk * 3) ++ zs ++ c.drop (kk * 3 + zs.length)).toArray, ?_, hb, ?_, ?_, hcm, ?_, ?_⟩⟩
    · rw [h3]; rfl
    · exact setRow_heap w g _ _ 62 _ h1
    · rw [← show kk = (compM l).length from h3]; omega
    · simp only [List.size_toArray, List.length_append, List.length_take, List.length_drop]; omega
    · rw [← show kk = (compM l).length from h3, show (compM l).flatMap encW = c.take (kk * 3) from h4.symm]
      simp only [List.append_assoc]
      rw [List.take_append_of_le_length (by rw [List.length_take]; omega), List.take_take, Nat.min_self]
  · exact grown_trans h6 ⟨rfl, rfl, rfl, by simp, fun k _ hk => setRow_other w g k _ (fun e => hk (by rw [e]))⟩
end Go.Proofs.YtnppgeiompimaaaGreatDoor

