import Derived.Test.YtnppgeiompimaaaGreatDoorM46
namespace Go.Proofs.YtnppgeiompimaaaGreatDoor
set_option linter.unusedSimpArgs false
set_option linter.unusedVariables false
set_option linter.unusedSimpArgs false
set_option linter.unusedVariables false
open Go.RowKit Go.Sort Go.Shelf Go.Lib

def fdW : FieldM := ⟨3, ⟨#[120]⟩, ⟨#[]⟩, 2, 3⟩
def fdR : FieldM := ⟨3, ⟨#[120]⟩, ⟨#[]⟩, 1, 1⟩
def fbW : BookM := [⟨⟨#[97]⟩, false, [fdW], [], []⟩]
def fbR : BookM := [⟨⟨#[97]⟩, false, [fdR], [], []⟩]
def fl2 : FlawM := ⟨⟨#[97]⟩, 3, 2⟩
def fl3 : FlawM := ⟨⟨#[97]⟩, 3, 3⟩
theorem good_fbW : goodM fbW = 0 := by kernel_rfl
theorem good_fbR : goodM fbR = 0 := by kernel_rfl
theorem named_fb : namedE fbW fbR ⟨#[97]⟩ = 0 := by kernel_rfl
theorem flaws_fb : allFlaws fbW fbR ⟨#[97]⟩ = [fl2, fl3] := by kernel_rfl
theorem lt_fl : ltOf cmpW fl2 fl3 = true := by kernel_rfl
theorem comp_fl : compM [fl2, fl3] = [fl2, fl3] := by kernel_rfl
theorem perm_two {α : Type} {x y : α} {l : List α} (h : l.Perm [x, y]) : l = [x, y] ∨ l = [y, x] := by
  have hl := h.length_eq
  match l, hl with
  | [a, b], _ =>
    have ha : a ∈ [x, y] := h.subset (by simp)
    simp only [List.mem_cons, List.not_mem_nil, or_false] at ha
    rcases ha with rfl | rfl
    · have := (List.Perm.cons_inv h).eq_singleton
      exact .inl (by rw [this])
    · have h2 : [a, b].Perm [a, x] := h.trans (List.Perm.swap a x [])
      have := (List.Perm.cons_inv h2).eq_singleton
      exact .inr (by rw [this])
theorem found_fb {l : List FlawM} (h : FlawsOk fbW fbR ⟨#[97]⟩ l) : compM l = [fl2, fl3] := by
  obtain ⟨hp, hs⟩ := h.2 named_fb
  rw [flaws_fb] at hp
  rcases perm_two hp with rfl | rfl
  · exact comp_fl
  · rw [List.pairwise_cons] at hs
    have := hs.1 fl2 (by simp)
    rw [lt_fl] at this; cases this
theorem book_one {w : World} {g c : Nat} {tv : TV} {t : TypeM} (hb : w.heap[g]? = some (.cells #[.string tv.name, .bool tv.enum, .slice tv.fields.a tv.fields.len tv.fields.cap, .slice tv.gone.a tv.gone.len tv.gone.cap, .slice tv.items.a tv.items.len tv.items.cap] 50 (0, 0))) (ht : TypeAt w tv t) : BookAt w ⟨some ⟨g, 0, none⟩, 1, c⟩ [t] := by
  refine ⟨rfl, fun i x hx => ?_⟩
  have : i = 0 := by
    have := (List.getElem?_eq_some_iff.1 hx).1
    simp at this; omega
  subst this
  simp only [List.getElem?_cons_zero, Option.some.injEq] at hx
  subst hx
  refine ⟨g, 0, tv.cells, rfl, fun j v hj => ?_, tv, rfl, ht⟩
  rw [cell_of_row w g _ _ 50 _ hb]
  simp only [Nat.zero_mul, Nat.zero_add, ← Array.getElem?_toList]
  exact hj
theorem field_one {w : World} {g : Nat} {f : FieldM} (hb : w.heap[g]? = some (.cells #[.int .i64 f.id, .string f.name, .string f.type, .int .i64 f.kind, .int .i64 f.rule] 70 (0, 0))) : FieldsAt w ⟨some ⟨g, 0, none⟩, 1, 1⟩ [f] := by
  refine ⟨rfl, fun i x hx => ?_⟩
  have : i = 0 := by
    have := (List.getElem?_eq_some_iff.1 hx).1
    simp at this; omega
  subst this
  simp only [List.getElem?_cons_zero, Option.some.injEq] at hx
  subst hx
  refine ⟨g, 0, f.cells, rfl, fun j v hj => ?_, rfl⟩
  rw [cell_of_row w _ _ _ 70 _ hb]
  simp only [Nat.zero_mul, Nat.zero_add, ← Array.getElem?_toList]
  exact hj
theorem items_fb {b : BookM} (h : ∀ t ∈ b, t.items = []) (f : FieldM) : (typeM b f).items.length ≤ 1000 := by
  unfold typeM
  cases hf : findM b f.type with
  | none => simp [TypeM.zero]
  | some t => simp [h t (findM_mem hf)]
set_option maxHeartbeats 6400000 in
set_option maxRecDepth 10000 in
theorem finds_ok (w : World) (hw : WordsAt w) : Calls Tryz.prog 18 #[] w fun e w' => e = .returned (.bool true) ∧ Ext w w' := by
  obtain ⟨V, hV⟩ : ∃ V, V = ((w.alloc (.cells #[.int .i64 3, .string ⟨#[120]⟩, .string ⟨#[]⟩, .int .i64 2, .int .i64 3] 70)).alloc (.cells #[.string ⟨#[97]⟩, .bool false, .slice (some ⟨w.heap.size, 0, none⟩) 1 1, .slice none 0 0, .slice none 0 0] 50)).alloc (.cells #[.slice (some ⟨w.heap.size + 1, 0, none⟩) 1 1] 24) := ⟨_, rfl⟩
  obtain ⟨hxV, hzV, r0, r1, r2⟩ := heaps3c hV
  obtain ⟨W, hW⟩ : ∃ W, W = ((V.alloc (.cells #[.int .i64 3, .string ⟨#[120]⟩, .string ⟨#[]⟩, .int .i64 1, .int .i64 1] 70)).alloc (.cells #[.string ⟨#[97]⟩, .bool false, .slice (some ⟨V.heap.size, 0, none⟩) 1 1, .slice none 0 0, .slice none 0 0] 50)).alloc (.cells #[.slice (some ⟨V.heap.size + 1, 0, none⟩) 1 1] 24) := ⟨_, rfl⟩
  obtain ⟨hxW, hzW, r3, r4, r5⟩ := heaps3c hW
  have hxw := hxV.trans hxW
  have nI : ∀ W : World, IntsAt W ⟨none, 0, 0⟩ [] := fun _ => ⟨rfl, fun i x hx => by simp at hx⟩
  have nT : ∀ W : World, ItemsAt W ⟨none, 0, 0⟩ [] := fun _ => ⟨rfl, fun i x hx => by simp at hx⟩
  have ok0 : ∀ g, SV.ok ⟨some ⟨g, 0, none⟩, 1, 1⟩ := fun g => ⟨Nat.le_refl _, fun h => by cases h⟩
  have bW : BookAt W ⟨some ⟨w.heap.size + 1, 0, none⟩, 1, 1⟩ fbW := book_one (tv := ⟨⟨#[97]⟩, false, ⟨some ⟨w.heap.size, 0, none⟩, 1, 1⟩, ⟨none, 0, 0⟩, ⟨none, 0, 0⟩⟩) (hxW.heap r1) ⟨rfl, rfl, field_one (f := fdW) (hxW.heap r0), nI W, nT W, ok0 _, nil_ok, nil_ok⟩
  have bR : BookAt W ⟨some ⟨V.heap.size + 1, 0, none⟩, 1, 1⟩ fbR := book_one (tv := ⟨⟨#[97]⟩, false, ⟨some ⟨V.heap.size, 0, none⟩, 1, 1⟩, ⟨none, 0, 0⟩, ⟨none, 0, 0⟩⟩) r4 ⟨rfl, rfl, field_one (f := fdR) r3, nI W, nT W, ok0 _, nil_ok, nil_ok⟩
  have hF := flawsAll_any _ _ fbW fbR ⟨#[97]⟩ W bW bR (hw.ext hxw) (good_small good_fbW).fits (good_small good_fbR).fits
  have hzV' : V.heap.size = w.heap.size + 1 + 1 + 1 := hzV
  rw [named_fb, hzV'] at hF
  rw [hzV'] at hW r4 r5 r3
  have HF := hide hF
  have HV := hide hV
  have HW := hide hW
  clear hV hW hF bW bR hzV hzV' hzW
  obtain ⟨c2, _⟩ := row1 (hxW.heap r2)
  obtain ⟨c5, _⟩ := row1 r5
  have z2 := lt_of_heap (hxW.heap r2)
  have z5 := lt_of_heap r5
  go_enter Tryz.func18, Tryz.ntmps18
  go_wp2_with fail
  rw [← unhide HV, ← unhide HW]
  refine (unhide HF).mono ?_
  rintro e w1 ⟨sv, l, rfl, hfo, ho, x1⟩
  rw [found_fb hfo] at ho
  obtain ⟨g, cap, rfl⟩ : ∃ g cap, sv = ⟨some ⟨g, 0, none⟩, 2, cap⟩ := by
    rcases ho.2 with ⟨_, e⟩ | ⟨g, cap, cur, e, _⟩
    · cases e
    · obtain ⟨a, b, c⟩ := sv
      simp only [Value.slice.injEq] at e
      obtain ⟨rfl, rfl, rfl⟩ := e
      exact ⟨g, _, rfl⟩
  have e2 : w1.cell? ⟨g, 2, none⟩ = some (.int .i64 2) := cell_owns (j := 2) ho rfl
  have e5 : w1.cell? ⟨g, 3 + 2, none⟩ = some (.int .i64 3) := cell_owns (j := 5) ho rfl
  clear ho HF c2 c5 z2 z5
  go_wp2
  go_ret
  exact ⟨rfl, hxw.trans x1⟩
end Go.Proofs.YtnppgeiompimaaaGreatDoor

