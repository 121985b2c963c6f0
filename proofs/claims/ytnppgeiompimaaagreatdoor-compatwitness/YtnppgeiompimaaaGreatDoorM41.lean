import Derived.Test.YtnppgeiompimaaaGreatDoorM40
namespace Go.Proofs.YtnppgeiompimaaaGreatDoor
set_option linter.unusedSimpArgs false
set_option linter.unusedVariables false
set_option linter.unusedSimpArgs false
set_option linter.unusedVariables false
open Go.RowKit

section
variable {P : Program} {ops : Array Oper} {Q : Exit → Act → World → Prop} {S : World → Prop} {B : Nat → Bool}
theorem wpOp_X {j : Nat} {oj : Oper} {fuel : Nat} {listed : Array Bool} {a : Act} {w : World} (hj : ops[j]? = some oj) (hB : B j = false)
    (h : ∀ K : Act → World → Prop, Hid (∀ a' w', S w' → wpAnyX P ops Q S B fuel (listed.setIfInBounds j true) a' w' → K a' w') → wpList P ops (Exit.then K Q) [oj] a w) :
    wpOp P ops Q j (fun a' w' => (B j = true → wpAny P .any ops Q fuel (listed.setIfInBounds j true) a' w') ∧ (B j = false → S w' ∧ wpAnyX P ops Q S B fuel (listed.setIfInBounds j true) a' w')) a w := by
  have h1 := h (fun a' w' => S w' ∧ wpAnyX P ops Q S B fuel (listed.setIfInBounds j true) a' w') (fun _ _ hS hX => ⟨hS, hX⟩)
  unfold wpOp
  simp only [hj]
  unfold wpList at h1
  split
  · rename_i hw
    rw [if_pos hw] at h1
    rcases h1 with h1 | h1
    · refine .inl (wp_then (N := wpList P ops (Exit.then (fun a' w' => S w' ∧ wpAnyX P ops Q S B fuel (listed.setIfInBounds j true) a' w') Q) []) (fun a' w' hh => ⟨fun h => (by rw [hB] at h; cases h), fun _ => hh⟩) h1)
    · exact .inr h1
  · rename_i hw
    rw [if_neg hw] at h1
    exact ⟨fun h => (by rw [hB] at h; cases h), fun _ => h1⟩
/-- One of two comes up. -/
theorem wpAnyX_two {i j : Nat} {oi oj : Oper} {fuel : Nat} {listed : Array Bool} {a : Act} {w : World} (hi : ops[i]? = some oi) (hj : ops[j]? = some oj) (hr : Region.ready .any ops listed = [i, j]) (hBi : B i = false) (hBj : B j = false)
    (h1 : ∀ K : Act → World → Prop, Hid (∀ a' w', S w' → wpAnyX P ops Q S B fuel (listed.setIfInBounds i true) a' w' → K a' w') → wpList P ops (Exit.then K Q) [oi] a w)
    (h2 : ∀ K : Act → World → Prop, Hid (∀ a' w', S w' → wpAnyX P ops Q S B fuel (listed.setIfInBounds j true) a' w' → K a' w') → wpList P ops (Exit.then K Q) [oj] a w) : wpAnyX P ops Q S B (fuel + 1) listed a w := by
  refine And.intro (fun e => by rw [hr] at e; cases e) (fun k hk => ?_)
  rw [hr] at hk
  simp only [List.mem_cons, List.not_mem_nil, or_false] at hk
  rcases hk with rfl | rfl
  · exact wpOp_X hi hBi h1
  · exact wpOp_X hj hBj h2
theorem wpAnyX_three {i j k : Nat} {oi oj ok : Oper} {fuel : Nat} {listed : Array Bool} {a : Act} {w : World} (hi : ops[i]? = some oi) (hj : ops[j]? = some oj) (hk : ops[k]? = some ok) (hr : Region.ready .any ops listed = [i, j, k]) (hBi : B i = false) (hBj : B j = false) (hBk : B k = false)
    (h1 : ∀ K : Act → World → Prop, Hid (∀ a' w', S w' → wpAnyX P ops Q S B fuel (listed.setIfInBounds i true) a' w' → K a' w') → wpList P ops (Exit.then K Q) [oi] a w)
    (h2 : ∀ K : Act → World → Prop, Hid (∀ a' w', S w' → wpAnyX P ops Q S B fuel (listed.setIfInBounds j true) a' w' → K a' w') → wpList P ops (Exit.then K Q) [oj] a w)
    (h3 : ∀ K : Act → World → Prop, Hid (∀ a' w', S w' → wpAnyX P ops Q S B fuel (listed.setIfInBounds k true) a' w' → K a' w') → wpList P ops (Exit.then K Q) [ok] a w) : wpAnyX P ops Q S B (fuel + 1) listed a w := by
  refine And.intro (fun e => by rw [hr] at e; cases e) (fun m hm => ?_)
  rw [hr] at hm
  simp only [List.mem_cons, List.not_mem_nil, or_false] at hm
  rcases hm with rfl | rfl | rfl
  · exact wpOp_X hi hBi h1
  · exact wpOp_X hj hBj h2
  · exact wpOp_X hk hBk h3
end

/-- What stands but for one message's cell and its two rows. -/
structure PFr (w w' : World) (T : Nat) (r1 r2 : Option Nat) : Prop where
  os : w'.os = w.os
  tape : w'.tape = w.tape
  output : w'.output = w.output
  size : w.heap.size ≤ w'.heap.size
  block : ∀ b, b < w.heap.size → b ≠ T → some b ≠ r1 → some b ≠ r2 → w'.heap[b]? = w.heap[b]?
theorem PFr.refl (w : World) (T : Nat) (r1 r2 : Option Nat) : PFr w w T r1 r2 := ⟨rfl, rfl, rfl, Nat.le_refl _, fun _ _ _ _ _ => rfl⟩
theorem PFr.ext {a w w' : World} {T : Nat} {r1 r2 : Option Nat} (h : PFr a w T r1 r2) (he : Ext w w') : PFr a w' T r1 r2 :=
  ⟨(Below.os he).trans h.os, (Below.tape he).trans h.tape, (Below.output he).trans h.output, Nat.le_trans h.size he.size, fun b hb h1 h2 h3 => (Below.block he b (Nat.lt_of_lt_of_le hb h.size)).trans (h.block b hb h1 h2 h3)⟩
theorem PFr.grown {a w w' : World} {T : Nat} {r1 r2 row : Option Nat} (h : PFr a w T r1 r2) (hg : w.grownBy w' row) (hr : row = r1 ∨ row = r2 ∨ ∀ k, row = some k → a.heap.size ≤ k) : PFr a w' T r1 r2 :=
  ⟨hg.os.trans h.os, hg.tape.trans h.tape, hg.output.trans h.output, Nat.le_trans h.size hg.size, fun b hb h1 h2 h3 => (hg.block b (Nat.lt_of_lt_of_le hb h.size) (fun e => by
    rcases hr with rfl | rfl | hr
    · exact h2 e
    · exact h3 e
    · have := hr b e.symm; omega)).trans (h.block b hb h1 h2 h3)⟩
theorem PFr.set {a w : World} {T : Nat} {r1 r2 : Option Nat} (h : PFr a w T r1 r2) (i : Nat) (u : Value) : PFr a (w.setCell ⟨T, i, none⟩ u) T r1 r2 :=
  ⟨h.os, h.tape, h.output, by rw [size_setCell]; exact h.size, fun b hb h1 h2 h3 => (Below.heap_setCell _ _ _ _ h1).trans (h.block b hb h1 h2 h3)⟩
theorem PFr.heap {a w : World} {T : Nat} {r1 r2 : Option Nat} (h : PFr a w T r1 r2) {b : Nat} {o : Obj} (hb : a.heap[b]? = some o) (h1 : b ≠ T) (h2 : some b ≠ r1) (h3 : some b ≠ r2) : w.heap[b]? = some o := by
  rw [h.block b (Array.getElem?_eq_some_iff.1 hb).1 h1 h2 h3]; exact hb
theorem PFr.trans {a w w' : World} {T : Nat} {r1 r2 s1 s2 : Option Nat} (h : PFr a w T r1 r2) (k : PFr w w' T s1 s2) (h1 : s1 = r1 ∨ ∀ j, s1 = some j → a.heap.size ≤ j) (h2 : s2 = r2 ∨ ∀ j, s2 = some j → a.heap.size ≤ j) : PFr a w' T r1 r2 :=
  ⟨k.os.trans h.os, k.tape.trans h.tape, k.output.trans h.output, Nat.le_trans h.size k.size, fun b hb e1 e2 e3 => (k.block b (Nat.lt_of_lt_of_le hb h.size) e1 (fun e => by
    rcases h1 with rfl | h1
    · exact e2 e
    · have := h1 b e.symm; omega) (fun e => by
    rcases h2 with rfl | h2
    · exact e3 e
    · have := h2 b e.symm; omega)).trans (h.block b hb e1 e2 e3)⟩
theorem PFr.toExt {w0 w w' : World} {T : Nat} {r1 r2 : Option Nat} (h : PFr w w' T r1 r2) (h0 : Ext w0 w) (hT : w0.heap.size ≤ T) (h1 : ∀ j, r1 = some j → w0.heap.size ≤ j) (h2 : ∀ j, r2 = some j → w0.heap.size ≤ j) : Ext w0 w' := by
  refine ⟨h.os.trans (Below.os h0), h.tape.trans (Below.tape h0), h.output.trans (Below.output h0), Nat.le_trans h0.size h.size, fun b hb => ?_⟩
  have hs := h0.size
  exact (h.block b (by omega) (by omega) (fun e => by have := h1 b e.symm; omega) (fun e => by have := h2 b e.symm; omega)).trans (Below.block h0 b hb)
theorem PFr.range {a w : World} {T : Nat} {r1 r2 : Option Nat} (h : PFr a w T r1 r2) {b o : Nat} {cs : List Value} (hr : a.rangeAt b o cs) (h1 : b ≠ T) (h2 : some b ≠ r1) (h3 : some b ≠ r2) : w.rangeAt b o cs := rangeAt_keep hr fun _ hb => h.heap hb h1 h2 h3
theorem PFr.valueAt {a w : World} {T : Nat} {r1 r2 : Option Nat} (h : PFr a w T r1 r2) {S : Nat → Prop} (hS : ∀ b, S b → b ≠ T ∧ some b ≠ r1 ∧ some b ≠ r2) {k : Nat} {cs : List Value} {v : ValueM} (hv : ValueAtP S k a cs v) : ValueAtP S k w cs v :=
  hv.keep fun b _ hb ho => h.heap ho (hS b hb).1 (hS b hb).2.1 (hS b hb).2.2

theorem owns_base {w : World} {b b' : Nat} {e : TypeId} {k n : Nat} {v : Value} {xs : List Value} (h : w.ownsRow b e k v n xs) (hb : b' ≤ b) : w.ownsRow b' e k v n xs := by
  refine ⟨h.1, ?_⟩
  rcases h.2 with h0 | ⟨g, cap, cur, ev, hbg, r⟩
  · exact .inl h0
  · exact .inr ⟨g, cap, cur, ev, by omega, r⟩
theorem VRow.lower {k : Nat} {w : World} {b b' : Nat} {X : Nat → Prop} {ex : Option Nat} {v : Value} {l : List ValueM} (h : VRow k w b X ex v l) (hb : b' ≤ b) : VRow k w b' X ex v l := by
  obtain ⟨css, h1, h2, h3⟩ := h
  exact ⟨css, owns_base h1 hb, h2, h3⟩
theorem VRow.lt {k : Nat} {w : World} {b : Nat} {X : Nat → Prop} {ex : Option Nat} {v : Value} {l : List ValueM} (h : VRow k w b X ex v l) : ∀ j, v.ownBlock = some j → b ≤ j ∧ j < w.heap.size := by
  obtain ⟨css, h1, _⟩ := h
  exact h1.lt
theorem blk_own (s : SV) : s.blk = Value.ownBlock (.slice s.a s.len s.cap) := by obtain ⟨a, n, c⟩ := s; cases a <;> rfl
/-- A message that is being made: its cell, and its two rows. -/
def PutP (k : Nat) (w : World) (base T : Nat) (X : Nat → Prop) (vi vL : Value) (ids : List Int) (l : List ValueM) : Prop :=
  w.heap[T]? = some (.cells #[.int .i64 2, .int .i64 0, .string ⟨#[]⟩, vi, vL] 37 (0, 0)) ∧ w.ownsRow base 3 1 vi ids.length (ids.flatMap encI) ∧ VRow k w base X vi.ownBlock vL l
theorem PutP.ext {k : Nat} {w w' : World} {base T : Nat} {X : Nat → Prop} {vi vL : Value} {ids : List Int} {l : List ValueM} (h : PutP k w base T X vi vL ids l) (he : Ext w w') : PutP k w' base T X vi vL ids l :=
  ⟨he.heap h.1, owns_ext h.2.1 he, h.2.2.ext he⟩
theorem PutP.lt1 {k : Nat} {w : World} {base T : Nat} {X : Nat → Prop} {vi vL : Value} {ids : List Int} {l : List ValueM} (h : PutP k w base T X vi vL ids l) : ∀ j, vi.ownBlock = some j → base ≤ j ∧ j < w.heap.size := h.2.1.lt
theorem PutP.lt2 {k : Nat} {w : World} {base T : Nat} {X : Nat → Prop} {vi vL : Value} {ids : List Int} {l : List ValueM} (h : PutP k w base T X vi vL ids l) : ∀ j, vL.ownBlock = some j → base ≤ j ∧ j < w.heap.size := by
  obtain ⟨css, h1, _⟩ := h.2.2
  exact h1.lt
def putI (ids : List Int) (xs : List ValueM) (id : Int) (i : Nat) : List Int := ids ++ (xs.take i).map fun _ => id
def putL (l xs : List ValueM) (i : Nat) : List ValueM := l ++ xs.take i
theorem putI_succ {ids : List Int} {xs : List ValueM} {id : Int} {i : Nat} (h : i < xs.length) : putI ids xs id (i + 1) = putI ids xs id i ++ [id] := by
  unfold putI; rw [List.take_succ_eq_append_getElem h, List.map_append, List.append_assoc]; rfl
theorem putL_succ {l xs : List ValueM} {i : Nat} {x : ValueM} (h : xs[i]? = some x) : putL l xs (i + 1) = putL l xs i ++ [x] := by
  unfold putL; rw [List.take_add_one, h]; simp
theorem putI_len {ids : List Int} {xs : List ValueM} {id : Int} {i : Nat} : (putI ids xs id i).length ≤ ids.length + xs.length := by
  unfold putI; simp; omega
theorem putL_len {l xs : List ValueM} {i : Nat} : (putL l xs i).length ≤ l.length + xs.length := by
  unfold putL; simp; omega
theorem putI_zero {ids : List Int} {xs : List ValueM} {id : Int} : putI ids xs id 0 = ids := by unfold putI; simp
theorem putL_zero {l xs : List ValueM} : putL l xs 0 = l := by unfold putL; simp
theorem putI_all {ids : List Int} {xs : List ValueM} {id : Int} : putI ids xs id xs.length = ids ++ xs.map fun _ => id := by unfold putI; rw [List.take_length]
theorem putL_all {l xs : List ValueM} : putL l xs xs.length = l ++ xs := by unfold putL; rw [List.take_length]

theorem set5_list (c : List Value) (i : Nat) (a0 a1 a2 a3 a4 : Value) (h : i + 5 ≤ c.length) : ((((c.set i a0).set (i + 1) a1).set (i + 2) a2).set (i + 3) a3).set (i + 4) a4 = c.take i ++ [a0, a1, a2, a3, a4] ++ c.drop (i + 5) := by
  obtain ⟨A, B, rfl, rfl⟩ : ∃ A B, c = A ++ B ∧ A.length = i := ⟨c.take i, c.drop i, by simp, by simp; omega⟩
  rcases B with _ | ⟨b0, _ | ⟨b1, _ | ⟨b2, _ | ⟨b3, _ | ⟨b4, D⟩⟩⟩⟩⟩
  · exfalso; simp only [List.length_append, List.length_nil, List.length_cons] at h; omega
  · exfalso; simp only [List.length_append, List.length_nil, List.length_cons] at h; omega
  · exfalso; simp only [List.length_append, List.length_nil, List.length_cons] at h; omega
  · exfalso; simp only [List.length_append, List.length_nil, List.length_cons] at h; omega
  · exfalso; simp only [List.length_append, List.length_nil, List.length_cons] at h; omega
  · simp [List.set_append, List.take_append, List.drop_append]
/-- The last element of a row of five cells each, written. -/
theorem own_set5 {w : World} {base n g cap : Nat} {e : TypeId} {xs zs : List Value} (h : w.ownsRow base e 5 (.slice (some ⟨g, 0, none⟩) (n + 1) cap) (n + 1) (xs ++ zs)) (hz : zs.length = 5) (hx : xs.length = n * 5) (a0 a1 a2 a3 a4 : Value) :
    (((((w.setCell ⟨g, n * 5, none⟩ a0).setCell ⟨g, n * 5 + 1, none⟩ a1).setCell ⟨g, n * 5 + 2, none⟩ a2).setCell ⟨g, n * 5 + 3, none⟩ a3).setCell ⟨g, n * 5 + 4, none⟩ a4).ownsRow base e 5 (.slice (some ⟨g, 0, none⟩) (n + 1) cap) (n + 1) (xs ++ [a0, a1, a2, a3, a4]) ∧
    w.grownBy (((((w.setCell ⟨g, n * 5, none⟩ a0).setCell ⟨g, n * 5 + 1, none⟩ a1).setCell ⟨g, n * 5 + 2, none⟩ a2).setCell ⟨g, n * 5 + 3, none⟩ a3).setCell ⟨g, n * 5 + 4, none⟩ a4) (some g) := by
  constructor
  · refine ⟨by simp only [List.length_append, hx, List.length_cons, List.length_nil]; omega, ?_⟩
    rcases h.2 with ⟨e, _⟩ | ⟨g', cap', cur, ev, hb, hg, hc, hm, hs, ht⟩
    · cases e
    · simp only [Value.slice.injEq, Option.some.injEq, Addr.mk.injEq] at ev
      obtain ⟨⟨e1, _⟩, _, e2⟩ := ev
      subst e1 e2
      have h1 := heap_setCell_same w g (n * 5) _ e a0 hg
      have h2 := heap_setCell_same _ g (n * 5 + 1) _ e a1 h1
      have h3 := heap_setCell_same _ g (n * 5 + 2) _ e a2 h2
      have h4 := heap_setCell_same _ g (n * 5 + 3) _ e a3 h3
      have h5 := heap_setCell_same _ g (n * 5 + 4) _ e a4 h4
      have hl : n * 5 + 5 ≤ cur.size := by rw [hs]; have : (n + 1) * 5 ≤ cap * 5 := Nat.mul_le_mul_right 5 hc; omega
      refine .inr ⟨g, cap, _, rfl, hb, h5, hc, hm, by simpa using hs, ?_⟩
      have e5 : (((((cur.setIfInBounds (n * 5) a0).setIfInBounds (n * 5 + 1) a1).setIfInBounds (n * 5 + 2) a2).setIfInBounds (n * 5 + 3) a3).setIfInBounds (n * 5 + 4) a4).toList = cur.toList.take (n * 5) ++ [a0, a1, a2, a3, a4] ++ cur.toList.drop (n * 5 + 5) := by
        rw [← set5_list cur.toList (n * 5) a0 a1 a2 a3 a4 (by simpa using hl)]
        simp
      have hxs : cur.toList.take (n * 5) = xs := by
        have := congrArg (List.take (n * 5)) ht
        rw [List.take_take, Nat.min_eq_left (by omega)] at this
        rw [this]
        exact List.take_left' hx
      rw [e5, hxs]
      exact List.take_left' (by simp only [List.length_append, hx, List.length_cons, List.length_nil]; omega)
  · exact grown_trans (grown_trans (grown_trans (grown_trans (grownBy_set1 w g _ _) (grownBy_set1 _ g _ _)) (grownBy_set1 _ g _ _)) (grownBy_set1 _ g _ _)) (grownBy_set1 _ g _ _)
/-- .. of values. -/
theorem VRow.last {k : Nat} {w : World} {base g cap : Nat} {X : Nat → Prop} {ex : Option Nat} {l : List ValueM} {z x : ValueM} (h : VRow k w base X ex (.slice (some ⟨g, 0, none⟩) (l.length + 1) cap) (l ++ [z])) (a0 a1 a2 a3 a4 : Value)
    (hx : ValueAtP (fun b => X b ∧ some g ≠ some b ∧ ex ≠ some b ∧ b < w.heap.size) k w [a0, a1, a2, a3, a4] x) :
    VRow k (((((w.setCell ⟨g, l.length * 5, none⟩ a0).setCell ⟨g, l.length * 5 + 1, none⟩ a1).setCell ⟨g, l.length * 5 + 2, none⟩ a2).setCell ⟨g, l.length * 5 + 3, none⟩ a3).setCell ⟨g, l.length * 5 + 4, none⟩ a4) base X ex (.slice (some ⟨g, 0, none⟩) (l.length + 1) cap) (l ++ [x]) ∧
    w.grownBy (((((w.setCell ⟨g, l.length * 5, none⟩ a0).setCell ⟨g, l.length * 5 + 1, none⟩ a1).setCell ⟨g, l.length * 5 + 2, none⟩ a2).setCell ⟨g, l.length * 5 + 3, none⟩ a3).setCell ⟨g, l.length * 5 + 4, none⟩ a4) (some g) := by
  obtain ⟨css, h1, h2, h3⟩ := h
  rw [List.length_append, List.length_singleton] at h1 h2
  obtain ⟨cs0, cz, rfl⟩ : ∃ cs0 cz, css = cs0 ++ [cz] := by
    rcases List.eq_nil_or_concat css with rfl | ⟨cs0, cz, rfl⟩
    · simp at h2
    · exact ⟨cs0, cz, by simp⟩
  have hl0 : cs0.length = l.length := by simpa using h2
  have h5 : ∀ c ∈ cs0 ++ [cz], c.length = 5 := fun c hc => by
    obtain ⟨i, hi, rfl⟩ := List.getElem_of_mem hc
    exact (h3 i _ ((l ++ [z])[i]'(by simp at hi ⊢; omega)) (List.getElem?_eq_getElem hi) (List.getElem?_eq_getElem _)).len
  have hz5 : cz.length = 5 := h5 cz (by simp)
  have hx5 : (cs0.flatMap fun c => c).length = l.length * 5 := by
    rw [← hl0]
    clear h1 h2 h3 hl0
    induction cs0 with
    | nil => rfl
    | cons c r ih =>
      rw [List.flatMap_cons, List.length_append, h5 c (by simp), List.length_cons, ih fun d hd => h5 d (by rcases List.mem_append.1 hd with h | h; exact List.mem_append_left _ (List.mem_cons_of_mem _ h); exact List.mem_append_right _ h)]; omega
  rw [List.flatMap_append] at h1
  have h1' : w.ownsRow base 37 5 (.slice (some ⟨g, 0, none⟩) (l.length + 1) cap) (l.length + 1) ((cs0.flatMap fun c => c) ++ cz) := by simpa using h1
  obtain ⟨o1, o2⟩ := own_set5 h1' hz5 hx5 a0 a1 a2 a3 a4
  refine ⟨⟨cs0 ++ [[a0, a1, a2, a3, a4]], ?_, by simp [hl0], fun i c y hc hy => ?_⟩, o2⟩
  · rw [List.length_append, List.length_singleton, List.flatMap_append]
    simpa using o1
  · have key : ∀ {c : List Value} {y : ValueM}, ValueAtP (fun b => X b ∧ some g ≠ some b ∧ ex ≠ some b ∧ b < w.heap.size) k w c y → ValueAtP (fun b => X b ∧ some g ≠ some b ∧ ex ≠ some b ∧ b < (((((w.setCell ⟨g, l.length * 5, none⟩ a0).setCell ⟨g, l.length * 5 + 1, none⟩ a1).setCell ⟨g, l.length * 5 + 2, none⟩ a2).setCell ⟨g, l.length * 5 + 3, none⟩ a3).setCell ⟨g, l.length * 5 + 4, none⟩ a4).heap.size) k (((((w.setCell ⟨g, l.length * 5, none⟩ a0).setCell ⟨g, l.length * 5 + 1, none⟩ a1).setCell ⟨g, l.length * 5 + 2, none⟩ a2).setCell ⟨g, l.length * 5 + 3, none⟩ a3).setCell ⟨g, l.length * 5 + 4, none⟩ a4) c y := fun hv => by
      refine (hv.keep fun b ob hb hob => ?_).sub fun b hb => ⟨hb.1, hb.2.1, hb.2.2.1, by have := o2.size; have := hb.2.2.2; omega⟩
      rw [o2.block b hb.2.2.2 (fun e => hb.2.1 e.symm)]; exact hob
    by_cases hi : i < cs0.length
    · rw [List.getElem?_append_left hi] at hc
      rw [List.getElem?_append_left (by omega)] at hy
      exact key (h3 i c y (by rw [List.getElem?_append_left hi]; exact hc) (by rw [List.getElem?_append_left (by omega)]; exact hy))
    · by_cases hi2 : i = cs0.length
      · subst hi2
        rw [List.getElem?_append_right (Nat.le_refl _), Nat.sub_self] at hc
        rw [hl0, List.getElem?_append_right (Nat.le_refl _), Nat.sub_self] at hy
        simp at hc hy
        subst hc hy
        exact key hx
      · rw [List.getElem?_eq_none (by simp; omega)] at hc; cases hc
end Go.Proofs.YtnppgeiompimaaaGreatDoor

