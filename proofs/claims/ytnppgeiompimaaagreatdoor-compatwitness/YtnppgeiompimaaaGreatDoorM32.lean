import Derived.Test.YtnppgeiompimaaaGreatDoorM31
import Derived.Lib.OthersKept
namespace Go.Proofs.YtnppgeiompimaaaGreatDoor
set_option linter.unusedSimpArgs false
set_option linter.unusedVariables false
set_option linter.unusedSimpArgs false
set_option linter.unusedVariables false
open Go.RowKit

/-- A captured variable that holds a row of numbers. -/
def Jar (w : World) (T : Nat) (v : Value) (l : List Int) : Prop := w.heap[T]? = some (.cells #[v] 34 (0, 0)) ∧ w.ownsRow (T + 1) 3 1 v l.length (l.flatMap encI)
theorem Jar.ext {w w' : World} {T : Nat} {v : Value} {l : List Int} (h : Jar w T v l) (hx : Ext w w') : Jar w' T v l := ⟨hx.heap h.1, owns_ext h.2 hx⟩
theorem bodyPost_nil {P : Program} {fn : Func} {R : Ending → World → Prop} {a : Act} {w : World} (hr : (results fn a.tmps).run P w = .ok (.tuple #[]) w) (hd : a.defers = []) (hR : R (.returned (.tuple #[])) w) : bodyPost P fn R .normal a w :=
  ⟨hd, _, hr, hR⟩
theorem grownBy_set1 (w : World) (b i : Nat) (v : Value) : w.grownBy (w.setCell ⟨b, i, none⟩ v) (some b) := ⟨rfl, rfl, rfl, by rw [size_setCell]; exact Nat.le_refl _, fun k _ hne => Below.heap_setCell _ _ _ _ (fun e => hne (by rw [e]))⟩
set_option maxHeartbeats 1600000 in
theorem addwhy_any (n : Int) (b : Bool) (T : Nat) (v : Value) (l : List Int) (w : World) (hj : Jar w T v l) (hl : l.length ≤ 1000) :
    Calls Tryz.prog 91 #[.int .i64 n, .bool b, .pointer (some ⟨T, 0, none⟩)] w fun e w' => e = .returned (.tuple #[]) ∧ (∃ v', Jar w' T v' (l ++ if b = true then [n] else [])) ∧ ∀ w0, Ext w0 w → w0.heap.size ≤ T → Ext w0 w' := by
  obtain ⟨hT, ho⟩ := hj
  have hz := lt_of_heap hT
  obtain ⟨c0, fz⟩ := row1 hT
  go_enter Tryz.func91, Tryz.ntmps91
  cases b with
  | false =>
    go_wp2
    exact bodyPost_nil (by simp [results, Tryz.results91, go_sem]) rfl ⟨rfl, ⟨v, by simpa using (show Jar w T v l from ⟨hT, ho⟩)⟩, fun _ h _ => h⟩
  | true =>
    have hx1 : Ext w (w.alloc (.cells #[.int .i64 n] 3)) := (Ext.refl w).alloc _
    go_wp2_with (at_builtin; refine wpList_app1 _ _ 34 3 (.int .i64 0) 1 8 Tryz.underlying34 info3 rfl (by decide) (by decide) rfl rfl (T + 1) v l.length _ rfl (ho.alloc _) w.heap.size 1 [.int .i64 n] rfl rfl ?c1 ?c2 ?c3 ?c4 ?_)
    case c1 => exact range_new1 _ _ _ rfl
    case c2 => exact one_int n
    case c3 => omega
    case c4 => simp; omega
    intro v8 W8 ho8 hg8
    have hoa := ho.alloc (.cells #[.int .i64 n] 3)
    have hne : some T ≠ v.ownBlock := fun e => by have := (hoa.lt T e.symm).1; omega
    have hT8 : W8.heap[T]? = some (.cells #[v] 34 (0, 0)) := by rw [hg8.block T (by simp; omega) hne]; exact hx1.heap hT
    have hz8 := lt_of_heap hT8
    have he8 : ∀ w0, Ext w0 w → w0.heap.size ≤ T → Ext w0 W8 := fun w0 h hz0 => (h.alloc _).owned hg8 hoa (by omega)
    have ho8' : W8.ownsRow (T + 1) 3 1 v8 (l ++ [n]).length ((l ++ [n]).flatMap encI) := by
      rw [List.length_append, List.length_singleton, List.flatMap_append]
      simpa [encI] using ho8
    obtain ⟨sv, rfl, _⟩ := sliceAt_of_owns encI (fun _ => rfl) ho8' rfl
    obtain ⟨c8, f8⟩ := row1 hT8
    have h9 := heap_setCell_same W8 T 0 _ 34 (.slice sv.a sv.len sv.cap) hT8
    simp only [List.setIfInBounds_toArray, List.set_cons_zero] at h9
    have ho9 : (W8.setCell ⟨T, 0, none⟩ (.slice sv.a sv.len sv.cap)).ownsRow (T + 1) 3 1 (.slice sv.a sv.len sv.cap) (l ++ [n]).length ((l ++ [n]).flatMap encI) := ho8'.kept (grownBy_set1 W8 T 0 _) (.inr fun e => by have := (ho8'.lt T e).1; omega)
    have he9 : ∀ w0, Ext w0 w → w0.heap.size ≤ T → Ext w0 (W8.setCell ⟨T, 0, none⟩ (.slice sv.a sv.len sv.cap)) := fun w0 h hz0 => (he8 w0 h hz0).setCell hz0 _
    clear ho8 hg8 ho8' hoa he8 hne
    go_wp2
    exact bodyPost_nil (by simp [results, Tryz.results91, go_sem]) rfl ⟨rfl, ⟨_, h9, ho9⟩, he9⟩
theorem heaps4c {w w0 : World} {a b c d : Obj} (h : w0 = (((w.alloc a).alloc b).alloc c).alloc d) : Ext w w0 ∧ w0.heap.size = w.heap.size + 4 ∧ w0.heap[w.heap.size]? = some a ∧ w0.heap[w.heap.size + 1]? = some b ∧ w0.heap[w.heap.size + 1 + 1]? = some c ∧ w0.heap[w.heap.size + 1 + 1 + 1]? = some d := by
  subst h
  obtain ⟨h0, h1, h2, h3, h4⟩ := heaps3c (w := w) (a := a) (b := b) (c := c) rfl
  have e := (Ext.refl (((w.alloc a).alloc b).alloc c)).alloc d
  refine ⟨h0.trans e, by simp, e.heap h2, e.heap h3, e.heap h4, ?_⟩
  have := heap_alloc_new (((w.alloc a).alloc b).alloc c) d
  simpa using this
set_option maxHeartbeats 6400000 in
set_option maxRecDepth 10000 in
theorem whys_any (s1 s2 : SV) (ws rs : BookM) (f g : FieldM) (w : World) (h1 : BookAt w s1 ws) (h2 : BookAt w s2 rs) (n1 : ws.Small) (n2 : rs.Small) (hi : (typeM ws f).items.length ≤ 1000) (hi2 : (typeM rs g).items.length ≤ 1000) :
    Calls Tryz.prog 52 #[.agg #[.slice s1.a s1.len s1.cap, .slice s2.a s2.len s2.cap], .agg #[.int .i64 f.id, .string f.name, .string f.type, .int .i64 f.kind, .int .i64 f.rule], .agg #[.int .i64 g.id, .string g.name, .string g.type, .int .i64 g.kind, .int .i64 g.rule]] w fun e w' => ∃ (sv : SV) (B : Nat), e = .returned (.slice sv.a sv.len sv.cap) ∧ w'.ownsRow B 3 1 (.slice sv.a sv.len sv.cap) (whysM ws rs f g).length ((whysM ws rs f g).flatMap encI) ∧ Ext w w' := by
  obtain ⟨W, hW⟩ : ∃ W, W = (((w.alloc (.cells #[.slice s1.a s1.len s1.cap, .slice s2.a s2.len s2.cap] 52)).alloc (.cells #[.int .i64 f.id, .string f.name, .string f.type, .int .i64 f.kind, .int .i64 f.rule] 70)).alloc (.cells #[.int .i64 g.id, .string g.name, .string g.type, .int .i64 g.kind, .int .i64 g.rule] 70)).alloc (.cells #[.slice none 0 0] 34) := ⟨_, rfl⟩
  obtain ⟨hxW, hzW, r0, r1, r2, r3⟩ := heaps4c hW
  obtain ⟨W3, hW3⟩ : ∃ W3, W3 = ((w.alloc (.cells #[.slice s1.a s1.len s1.cap, .slice s2.a s2.len s2.cap] 52)).alloc (.cells #[.int .i64 f.id, .string f.name, .string f.type, .int .i64 f.kind, .int .i64 f.rule] 70)).alloc (.cells #[.int .i64 g.id, .string g.name, .string g.type, .int .i64 g.kind, .int .i64 g.rule] 70) := ⟨_, rfl⟩
  obtain ⟨fx3, hz3, _, q1, q2⟩ := heaps3c hW3
  have fW : Ext W3 W := by rw [hW, hW3]; exact (Ext.refl _).alloc _
  clear hW3
  have HS := fun w' (hx : Ext w w') => strange_any s1 s2 ws rs f g w' (h1.ext hx) (h2.ext hx) n1 n2 hi hi2
  have E0 : Hid (whysM ws rs f g = ([] ++ if (!(kindN f.kind == kindN g.kind)) = true then [1] else []) ++ (if (decide (f.rule = 3) && !(g.rule == 3)) = true then [2] else []) ++ if (strangeM ws rs f g).isSome = true then [3] else []) := by
    unfold Hid whysM
    simp
  generalize whysM ws rs f g = wm at *
  generalize (strangeM ws rs f g).getD 0 = sn at *
  generalize (strangeM ws rs f g).isSome = so at *
  have HK1 := kind_any f.kind
  have HK2 := kind_any g.kind
  generalize kindN f.kind = k1 at *
  generalize kindN g.kind = k2 at *
  have HS := hide HS
  have HW := hide hW
  have hJ : Jar W (w.heap.size + 1 + 1 + 1) (.slice none 0 0) [] := ⟨r3, owns_nilC _ _ _ _⟩
  obtain ⟨a0, a1, _⟩ := rowN2 r0
  obtain ⟨b0, b1, b2, b3, b4, _⟩ := rowN5 r1
  obtain ⟨c0, c1, c2, c3, c4, _⟩ := rowN5 r2
  clear hW h1 h2 n1 n2 hi hi2
  go_enter Tryz.func52, Tryz.ntmps52
  go_wp2_with fail
  rw [← unhide HW]
  refine (unhide HS W hxW).mono ?_
  rintro e w1 ⟨rfl, x1⟩
  clear a0 a1 b0 b1 b2 b3 b4 c0 c1 c2 c3 c4
  have hJ1 := hJ.ext x1
  have f1 := hxW.trans x1
  have r1' := x1.heap r1
  have r2' := x1.heap r2
  clear HS hJ
  go_wp2
  refine wp_region_X (fun w' => w'.heap[w.heap.size + 1]? = some (.cells #[.int .i64 f.id, .string f.name, .string f.type, .int .i64 f.kind, .int .i64 f.rule] 70 (0, 0)) ∧ w'.heap[w.heap.size + 1 + 1]? = some (.cells #[.int .i64 g.id, .string g.name, .string g.type, .int .i64 g.kind, .int .i64 g.rule] 70 (0, 0))) (fun _ => false) (by kernel_rfl) ?_
  obtain ⟨Wd, hWd⟩ : ∃ Wd, Wd = w1.drew := ⟨_, rfl⟩
  have fd : Ext w1 Wd := by rw [hWd]; exact (Ext.refl w1).drew
  have hS0 : Wd.heap[w.heap.size + 1]? = some (.cells #[.int .i64 f.id, .string f.name, .string f.type, .int .i64 f.kind, .int .i64 f.rule] 70 (0, 0)) ∧ Wd.heap[w.heap.size + 1 + 1]? = some (.cells #[.int .i64 g.id, .string g.name, .string g.type, .int .i64 g.kind, .int .i64 g.rule] 70 (0, 0)) := ⟨fd.heap r1', fd.heap r2'⟩
  rw [← hWd]
  clear hWd
  have hJd := hJ1.ext fd
  refine wpAnyX_take (i := 0) (v := .func (.func 91) #[] #[.pointer (some ⟨w.heap.size + 1 + 1 + 1, 0, none⟩)]) rfl (by kernel_rfl) (by kernel_rfl) (fun _ _ _ h => h) (.inl ⟨rfl, fun w' hS => by simp [execOp, go_sem]⟩) (hS0) ?_
  simp only [Act.put, List.getElem_toArray, List.getElem_cons_zero, List.getElem_cons_succ, List.setIfInBounds_toArray, List.set_cons_succ, List.set_cons_zero]
  refine wpAnyX_take (i := 1) (v := .pointer (some ⟨w.heap.size + 1, 3, none⟩)) rfl (by kernel_rfl) (by kernel_rfl) (fun _ _ _ h => h) (.inl ⟨rfl, fun w' hS => by simp [execOp, go_sem]⟩) (hS0) ?_
  simp only [Act.put, List.getElem_toArray, List.getElem_cons_zero, List.getElem_cons_succ, List.setIfInBounds_toArray, List.set_cons_succ, List.set_cons_zero]
  refine wpAnyX_take (i := 2) (v := .int .i64 f.kind) rfl (by kernel_rfl) (by kernel_rfl) (fun _ _ _ h => h) (.inl ⟨rfl, fun w' hS => by simp [execOp, go_sem, (rowN5 hS.1).2.2.2.1]⟩) (hS0) ?_
  simp only [Act.put, List.getElem_toArray, List.getElem_cons_zero, List.getElem_cons_succ, List.setIfInBounds_toArray, List.set_cons_succ, List.set_cons_zero]
  refine wpAnyX_take (i := 4) (v := .pointer (some ⟨w.heap.size + 1 + 1, 3, none⟩)) rfl (by kernel_rfl) (by kernel_rfl) (fun _ _ _ h => h) (.inl ⟨rfl, fun w' hS => by simp [execOp, go_sem]⟩) (hS0) ?_
  simp only [Act.put, List.getElem_toArray, List.getElem_cons_zero, List.getElem_cons_succ, List.setIfInBounds_toArray, List.set_cons_succ, List.set_cons_zero]
  refine wpAnyX_take (i := 5) (v := .int .i64 g.kind) rfl (by kernel_rfl) (by kernel_rfl) (fun _ _ _ h => h) (.inl ⟨rfl, fun w' hS => by simp [execOp, go_sem, (rowN5 hS.2).2.2.2.1]⟩) (hS0) ?_
  simp only [Act.put, List.getElem_toArray, List.getElem_cons_zero, List.getElem_cons_succ, List.setIfInBounds_toArray, List.set_cons_succ, List.set_cons_zero]
  refine wpAnyX_one (j := 3) rfl (by kernel_rfl) rfl fun K hK => ?_
  go_wp2_with fail
  refine (HK1 Wd).mono ?_
  rintro e w' ⟨rfl, hw'⟩
  rw [hw']
  clear hw' w'
  go_wp2
  refine hK.out _ _ (hS0) ?_
  clear hK K
  refine wpAnyX_one (j := 6) rfl (by kernel_rfl) rfl fun K hK => ?_
  go_wp2_with fail
  refine (HK2 Wd).mono ?_
  rintro e w' ⟨rfl, hw'⟩
  rw [hw']
  clear hw' w'
  go_wp2
  refine hK.out _ _ (hS0) ?_
  clear hK K
  refine wpAnyX_one (j := 7) rfl (by kernel_rfl) rfl fun K hK => ?_
  go_wp2
  refine hK.out _ _ (hS0) ?_
  clear hK K
  refine wpAnyX_one (j := 8) rfl (by kernel_rfl) rfl fun K hK => ?_
  go_wp2_with fail
  refine (addwhy_any 1 (!(k1 == k2)) _ _ [] Wd hJd (by simp)).mono ?_
  rintro e w2 ⟨rfl, ⟨v2, hJ2⟩, hx2⟩
  have f2 := hx2 W3 ((fW.trans x1).trans fd) (by omega)
  clear hx2
  go_wp2
  refine hK.out _ _ (⟨f2.heap q1, f2.heap q2⟩) ?_
  clear hK K
  refine wpAnyX_end [] [] rfl (by intro j i hj; simp at hj) (by kernel_rfl) (by intro i hi; simp at hi) fun K hK => ?_
  go_wp2
  refine hK.out _ _ ?_
  clear hK K
  have hl2 : ([] ++ if (!(k1 == k2)) = true then [(1 : Int)] else []).length ≤ 1 := by split <;> simp
  generalize ([] ++ if (!(k1 == k2)) = true then [(1 : Int)] else []) = L2 at *
  obtain ⟨b0, b1, b2, b3, b4, _⟩ := rowN5 (f2.heap q1)
  obtain ⟨c0, c1, c2, c3, c4, _⟩ := rowN5 (f2.heap q2)
  have hA := addwhy_any 2 (decide (f.rule = 3) && !(g.rule == 3)) _ _ _ w2 hJ2 (by omega)
  have hl3 : (L2 ++ if (decide (f.rule = 3) && !(g.rule == 3)) = true then [(2 : Int)] else []).length ≤ 2 := by rw [List.length_append]; split <;> simp <;> omega
  generalize (L2 ++ if (decide (f.rule = 3) && !(g.rule == 3)) = true then [(2 : Int)] else []) = L3 at *
  have HA := hide hA
  clear hA
  obtain ⟨fi, fn, ft, fk, fr⟩ := f
  obtain ⟨gi, gn, gt, gk, gr⟩ := g
  simp only at b0 b1 b2 b3 b4 c0 c1 c2 c3 c4 HA q1 q2
  have hM : ∀ b, (decide (fr = 3) && !(gr == 3)) = b → Calls Tryz.prog 91 #[.int .i64 2, .bool b, .pointer (some ⟨w.heap.size + 1 + 1 + 1, 0, none⟩)] w2 fun e w' => e = .returned (.tuple #[]) ∧ (∃ v', Jar w' (w.heap.size + 1 + 1 + 1) v' L3) ∧ ∀ w0, Ext w0 w2 → w0.heap.size ≤ w.heap.size + 1 + 1 + 1 → Ext w0 w' := fun b hb => hb ▸ unhide HA
  have HM := hide hM
  clear hM HA HW HS HK1 HK2 r1 r2 r1' r2' hS0 hJ1 hJd
  by_cases hfr : fr = 3
  all_goals
    first | subst hfr | skip
    go_wp2_with fail
    refine (unhide HM _ (by simp [*, bne])).mono ?_
    rintro e w3 ⟨rfl, ⟨v3, hJ3⟩, hx3⟩
    have f3 := hx3 W3 f2 (by omega)
    clear hx3 b0 b1 b2 b3 b4 c0 c1 c2 c3 c4
    go_wp2_with fail
    refine (addwhy_any 3 so _ _ _ w3 hJ3 (by omega)).mono ?_
    rintro e w4 ⟨rfl, ⟨v4, hJ4⟩, hx4⟩
    have f4 := hx4 W3 f3 (by omega)
    rw [← unhide E0] at hJ4
    obtain ⟨c0, _⟩ := row1 hJ4.1
    obtain ⟨sv, rfl, hat⟩ := sliceAt_of_owns encI (fun _ => rfl) hJ4.2 rfl
    have Hat := hide hJ4.2
    clear hJ4 hx4 hat
    go_wp2
    go_ret
    exact ⟨sv, _, rfl, unhide Hat, fx3.trans f4⟩
end Go.Proofs.YtnppgeiompimaaaGreatDoor

namespace Go.Proofs.YtnppgeiompimaaaGreatDoor
set_option linter.unusedSimpArgs false
set_option linter.unusedVariables false
open Go.RowKit

theorem info62 : (Tryz.prog.info? 62).map (fun i => (i.zero, i.size, i.bytes)) = some (some (.agg #[.string ⟨#[]⟩, .int .i64 0, .int .i64 0]), 3, 32) := by kernel_rfl
def encW (x : FlawM) : List Value := [.string x.type, .int .i64 x.id, .int .i64 x.why]
theorem whys_len {w r : BookM} {f g : FieldM} : (whysM w r f g).length ≤ 3 := by
  unfold whysM
  rw [List.length_append, List.length_append]
  have a : (if kindN f.kind ≠ kindN g.kind then [(1 : Int)] else []).length ≤ 1 := by split <;> simp
  have b : (if f.rule = 3 ∧ g.rule ≠ 3 then [(2 : Int)] else []).length ≤ 1 := by split <;> simp
  have c : (if (strangeM w r f g).isSome = true then [(3 : Int)] else []).length ≤ 1 := by split <;> simp
  omega
theorem kept_row {w w' : World} (h : Lib.OthersKept 62 none w w') {g : Nat} {cs : Array Value} {t : TypeId} (hb : w.heap[g]? = some (.cells cs t (0, 0))) (ht : t ≠ 62) : w'.heap[g]? = some (.cells cs t (0, 0)) :=
  h g _ hb (by simp) fun c fz e => by cases e; exact ht rfl
theorem kept_owns {w w' : World} (h : Lib.OthersKept 62 none w w') {B k n : Nat} {e : TypeId} {v : Value} {xs : List Value} (ho : w.ownsRow B e k v n xs) (he : e ≠ 62) : w'.ownsRow B e k v n xs := by
  refine ⟨ho.1, ?_⟩
  rcases ho.2 with h0 | ⟨g, cap, cur, hv, hb, hg, r⟩
  · exact .inl h0
  · exact .inr ⟨g, cap, cur, hv, hb, kept_row h hg he, r⟩
theorem kept_app {w0 w w' : World} (h : Lib.OthersKept 62 none w0 w) {B k n : Nat} {v : Value} {xs : List Value} (ho : w.ownsRow B 62 k v n xs) (hg : w.grownBy w' v.ownBlock) : Lib.OthersKept 62 none w0 w' :=
  h.grown hg fun g e => by
    rcases ho.2 with ⟨h0, _⟩ | ⟨g', cap, cur, hv, hb, hg, r⟩
    · rw [h0] at e; cases e
    · rw [hv] at e; cases e; exact ⟨_, _, hg⟩
def mkW (n : ByteArray) (i : Int) (y : Int) : FlawM := ⟨n, i, y⟩
set_option maxHeartbeats 6400000 in
set_option maxRecDepth 10000 in
theorem flaws_any (s1 s2 : SV) (ws rs : BookM) (p : PairM) (tv uv : TV) (w : World) (h1 : BookAt w s1 ws) (h2 : BookAt w s2 rs) (n1 : ws.Small) (n2 : rs.Small) (hi : ∀ f, (typeM ws f).items.length ≤ 1000) (hi2 : ∀ g, (typeM rs g).items.length ≤ 1000)
    (ht : TypeAt w tv p.a) (hu : TypeAt w uv p.b) (hl : p.a.fields.length ≤ 1000) (hl2 : p.b.fields.length ≤ 1000) :
    Calls Tryz.prog 24 #[.agg #[.slice s1.a s1.len s1.cap, .slice s2.a s2.len s2.cap], .agg #[.string tv.name, .bool tv.enum, .slice tv.fields.a tv.fields.len tv.fields.cap, .slice tv.gone.a tv.gone.len tv.gone.cap, .slice tv.items.a tv.items.len tv.items.cap, .string uv.name, .bool uv.enum, .slice uv.fields.a uv.fields.len uv.fields.cap, .slice uv.gone.a uv.gone.len uv.gone.cap, .slice uv.items.a uv.items.len uv.items.cap, .int .i64 p.src, .int .i64 p.id]] w fun e w' => ∃ sv : SV, e = .returned (.slice sv.a sv.len sv.cap) ∧ w'.ownsRow w.heap.size 62 3 (.slice sv.a sv.len sv.cap) (pairFlaws ws rs p).length ((pairFlaws ws rs p).flatMap encW) ∧ Ext w w' := by
  obtain ⟨W, hW⟩ : ∃ W, W = (w.alloc (.cells #[.slice s1.a s1.len s1.cap, .slice s2.a s2.len s2.cap] 52)).alloc (.cells #[.string tv.name, .bool tv.enum, .slice tv.fields.a tv.fields.len tv.fields.cap, .slice tv.gone.a tv.gone.len tv.gone.cap, .slice tv.items.a tv.items.len tv.items.cap, .string uv.name, .bool uv.enum, .slice uv.fields.a uv.fields.len uv.fields.cap, .slice uv.gone.a uv.gone.len uv.gone.cap, .slice uv.items.a uv.items.len uv.items.cap, .int .i64 p.src, .int .i64 p.id] 54) := ⟨_, rfl⟩
  obtain ⟨hxW, hzW, r0, r1⟩ := heaps2 hW
  have HWh := fun f g w' (hx : Ext w w') => whys_any s1 s2 ws rs f g w' (h1.ext hx) (h2.ext hx) n1 n2 (hi f) (hi2 g)
  have HF := fun n w' (hx : Ext w w') => fieldOf_any uv p.b n w' (hu.ext hx) (by omega)
  obtain ⟨F, hF⟩ : ∃ F : FieldM → List FlawM, F = fun f => match fieldM p.b f.id with
    | none => []
    | some g => (whysM ws rs f g).map (mkW p.a.name f.id) := ⟨_, rfl⟩
  have hPF : pairFlaws ws rs p = p.a.fields.flatMap F := by rw [hF]; rfl
  have F0 : Hid (∀ f, fieldM p.b f.id = none → F f = []) := fun f h => by rw [hF]; simp only [h]
  have F1 : Hid (∀ f g, fieldM p.b f.id = some g → F f = (whysM ws rs f g).map (mkW p.a.name f.id)) := fun f g h => by rw [hF]; simp only [h]
  rw [hPF]
  clear hF hPF h1 h2 n1 n2 hi hi2
  have hWl : ∀ f g, (whysM ws rs f g).length ≤ 3 := fun f g => whys_len
  generalize whysM ws rs = M at *
  obtain ⟨⟨an, ae, afs, ag, ai⟩, pb, ps, pid⟩ := p
  have hnm := ht.name
  obtain ⟨hfl, HFs⟩ := ht.fields
  have HFs := hide HFs
  obtain ⟨tn, te, ⟨fa, fl, fc⟩, tg, ti⟩ := tv
  simp only at hnm hfl hl hl2 F0 F1 HF r0 r1 hW HFs
  subst hfl
  subst hnm
  generalize fieldM pb = fB at *
  have F3 : ∀ f, (F f).length ≤ 3 := fun f => by
    cases e : fB f.id with
    | none => rw [unhide F0 f e]; simp
    | some g => rw [unhide F1 f g e, List.length_map]; exact hWl f g
  have F4 : Hid (∀ l : List FieldM, (l.flatMap F).length ≤ 3 * l.length) := fun l => by
    induction l with
    | nil => simp
    | cons x l ih => have := F3 x; rw [List.flatMap_cons, List.length_append, List.length_cons]; omega
  have HWh := hide HWh
  have HF := hide HF
  have HW := hide hW
  clear hW ht hu F3
  obtain ⟨a0, a1, _⟩ := rowN2 r0
  obtain ⟨d0, d1, d2, d3, d4, d5, d6, d7, d8, d9, d10, d11, df⟩ := rowN12 r1
  go_enter Tryz.func24, Tryz.ntmps24
  go_wp2
  rw [← unhide HW]
  clear a0 a1 d0 d1 d2 d3 d4 d5 d6 d7 d8 d9 d10 d11 df
  go_loopw [5, 16] (fun l i wr => ∃ (j : Nat) (sv : SV), j ≤ afs.length ∧ i = .int .i64 j ∧ l = .slice sv.a sv.len sv.cap ∧ wr.ownsRow W.heap.size 62 3 (.slice sv.a sv.len sv.cap) ((afs.take j).flatMap F).length (((afs.take j).flatMap F).flatMap encW) ∧ Ext W wr) (fun _ i _ => afs.length - (intOf i).toNat)
  case atStart => exact ⟨0, ⟨none, 0, 0⟩, by omega, rfl, rfl, ⟨by simp, .inl ⟨rfl, by simp⟩⟩, Ext.refl W⟩
  case round =>
    obtain ⟨j, sv, hj, rfl, rfl, ho, hE⟩ := hrel
    by_cases hlt : j < afs.length
    · obtain ⟨ib, io, cs, eia, hri, rfl⟩ := HFs j afs[j] (by simp [hlt])
      subst eia
      obtain ⟨i0, i1, i2, i3, i4⟩ := range5 ((hxW.trans hE).range hri)
      have hnx : Hid ((afs.take (j + 1)).flatMap F = (afs.take j).flatMap F ++ F afs[j]) := by unfold Hid; rw [List.take_succ_eq_append_getElem hlt, List.flatMap_append]; simp
      have hpl := unhide F4 (afs.take j)
      have hpm : (afs.take j).length ≤ 1000 := by rw [List.length_take]; omega
      have hpl : ((afs.take j).flatMap F).length ≤ 3000 := by omega
      have Hpl := hide hpl
      clear hpl hpm hri
      generalize afs[j] = f at *
      generalize (afs.take j).flatMap F = L at *
      have Ho := hide ho
      clear ho
      have hxF : Ext wr (wr.alloc (.cells #[.int .i64 f.id, .string f.name, .string f.type, .int .i64 f.kind, .int .i64 f.rule] 70)) := (Ext.refl wr).alloc _
      have rF : (wr.alloc (.cells #[.int .i64 f.id, .string f.name, .string f.type, .int .i64 f.kind, .int .i64 f.rule] 70)).heap[wr.heap.size]? = some (.cells #[.int .i64 f.id, .string f.name, .string f.type, .int .i64 f.kind, .int .i64 f.rule] 70 (0, 0)) := heap_alloc_new wr _
      have hcF := unhide HF f.id _ ((hxW.trans hE).trans hxF)
      obtain ⟨d0, d1, d2, d3, d4, d5, d6, d7, d8, d9, d10, d11, _⟩ := rowN12 (hE.heap r1)
      have hsz := hE.size
      have hz1 := lt_of_heap (hE.heap r1)
      have hz0 := lt_of_heap (hE.heap r0)
      cases hfb : fB f.id with
      | none =>
        rw [unhide F0 f hfb] at hnx
        rw [hfb] at hcF
        have Hc := hide hcF
        clear hcF
        go_wp2_with fail
        refine (unhide Hc).mono ?_
        rintro e w3 ⟨rfl, x3⟩
        have hE3 := (hE.trans hxF).trans x3
        have ho3 := owns_ext (unhide Ho) (hxF.trans x3)
        have hnx := unhide hnx
        rw [List.append_nil] at hnx
        clear d0 d1 d2 d3 d4 d5 d6 d7 d8 d9 d10 d11 i0 i1 i2 i3 i4 Hc rF hxF
        go_wp2
        exact ⟨⟨j + 1, sv, by omega, by go_num, rfl, by rw [hnx]; exact ho3.alloc _, hE3.alloc _⟩, by simp [intOf]; omega⟩
      | some g =>
        rw [hfb] at hcF
        have Hc := hide hcF
        have hFs := unhide F1 f g hfb
        have hN := hWl f g
        have hwh := fun w' hx => unhide HWh f g w' hx
        generalize M f g = N at *
        rw [hFs] at hnx
        clear hcF hFs hWl
        go_wp2_with fail
        refine (unhide Hc).mono ?_
        rintro e w3 ⟨rfl, x3⟩
        have hE3 := (hE.trans hxF).trans x3
        have ho3 := owns_ext (unhide Ho) (hxF.trans x3)
        have rF3 := x3.heap rF
        obtain ⟨f0, f1, f2, f3, f4, _⟩ := rowN5 rF3
        obtain ⟨a0, a1, _⟩ := rowN2 (hE3.heap r0)
        have zF3 := lt_of_heap rF3
        have z3 := lt_of_heap (hE3.heap r0)
        have z31 := lt_of_heap (hE3.heap r1)
        have hxG : Ext w3 (w3.alloc (.cells #[.int .i64 g.id, .string g.name, .string g.type, .int .i64 g.kind, .int .i64 g.rule] 70)) := (Ext.refl w3).alloc _
        have hwh := hwh _ ((hxW.trans hE3).trans hxG)
        have hwh := hide hwh
        clear d0 d1 d2 d3 d4 d5 d6 d7 d8 d9 d10 d11 i0 i1 i2 i3 i4 Hc HWh HF Ho
        go_wp2_with fail
        refine (unhide hwh).mono ?_
        rintro e w5 ⟨mv, B, rfl, hom, x5⟩
        have x35 := hxG.trans x5
        have hE5 := hE3.trans x35
        have ho5 := owns_ext ho3 x35
        have rF5 := x35.heap rF3
        have r15 := hE5.heap r1
        obtain ⟨mva, mvl, mvc⟩ := mv
        have hml := (slice_of_ownsC encI (fun _ => rfl) hom rfl).1
        simp only at hml
        subst hml
        have Hom := hide hom
        have Ho5 := hide ho5
        clear a0 a1 f0 f1 f2 f3 f4 hwh hom ho3 ho5
        go_wp2
        go_loopw [5, 35] (fun l i wq => ∃ (k : Nat) (sq : SV), k ≤ N.length ∧ i = .int .i64 k ∧ l = .slice sq.a sq.len sq.cap ∧ wq.ownsRow W.heap.size 62 3 (.slice sq.a sq.len sq.cap) (L ++ (N.take k).map (mkW tn f.id)).length ((L ++ (N.take k).map (mkW tn f.id)).flatMap encW) ∧ Ext W wq ∧ Lib.OthersKept 62 none w5 wq) (fun _ i _ => N.length - (intOf i).toNat)
        case atStart => exact ⟨0, sv, by omega, rfl, rfl, by simpa using unhide Ho5, hE5, Lib.OthersKept.refl _ _ _⟩
        case round =>
          obtain ⟨k, sq, hk, rfl, rfl, hq, hEq, hKq⟩ := hrel
          have rFq := kept_row hKq rF5 (by decide)
          have r1q := kept_row hKq r15 (by decide)
          obtain ⟨f0, f1, f2, f3, f4, _⟩ := rowN5 rFq
          obtain ⟨d0, d1, d2, d3, d4, d5, d6, d7, d8, d9, d10, d11, _⟩ := rowN12 r1q
          have zFq := lt_of_heap rFq
          have z1q := lt_of_heap r1q
          have hzq := hEq.size
          by_cases hlk : k < N.length
          · have hmq : wr.ownsRow B 3 1 (.slice mva N.length mvc) N.length (N.flatMap encI) := kept_owns hKq (unhide Hom) (by decide)
            have hatq := slice_of_ownsC (s := ⟨mva, N.length, mvc⟩) encI (fun _ => rfl) hmq rfl
            clear hmq
            obtain ⟨mb, mo, ema, hmc⟩ := int_at hatq hlk
            simp only at ema
            subst ema
            have hny : Hid (L ++ (N.take (k + 1)).map (mkW tn f.id) = (L ++ (N.take k).map (mkW tn f.id)) ++ [mkW tn f.id N[k]]) := by unfold Hid; rw [List.take_succ_eq_append_getElem hlk, List.map_append, List.append_assoc]; rfl
            have hql : (L ++ (N.take k).map (mkW tn f.id)).length ≤ 3003 := by
              have := unhide Hpl
              rw [List.length_append, List.length_map, List.length_take]; omega
            have Hql := hide hql
            clear hql hatq
            generalize N[k] = y at *
            generalize (L ++ (N.take k).map (mkW tn f.id)) = L2 at *
            have hq1 := hq.alloc (.cells #[.string tn, .int .i64 f.id, .int .i64 y] 62)
            go_wp2_with (at_builtin; refine wpList_app1 _ _ 26 62 (.agg #[.string ⟨#[]⟩, .int .i64 0, .int .i64 0]) 3 32 Tryz.underlying26 info62 rfl (by decide) (by decide) rfl rfl W.heap.size _ L2.length _ rfl hq1 wr.heap.size 1 [.string tn, .int .i64 f.id, .int .i64 y] rfl rfl ?c1 ?c2 ?c3 ?c4 ?_)
            case c1 => exact World.rangeAt_of_block (heap_alloc_new wr _) 0 3
            case c2 => intro u hu; simp at hu; rcases hu with rfl | rfl | rfl <;> rfl
            case c3 => have := unhide Hql; omega
            case c4 => simp; omega
            intro v8 W8 ho8 hg8
            have ho8' : W8.ownsRow W.heap.size 62 3 v8 (L2 ++ [mkW tn f.id y]).length ((L2 ++ [mkW tn f.id y]).flatMap encW) := by
              rw [List.length_append, List.length_singleton, List.flatMap_append]
              simpa [encW, mkW, hzW] using ho8
            obtain ⟨sv', rfl, _⟩ := sliceAt_of_owns encW (fun _ => rfl) ho8' rfl
            have hE8 : Ext W W8 := (hEq.alloc _).owned hg8 hq1 (Nat.le_refl _)
            have hK8 : Lib.OthersKept 62 none w5 W8 := kept_app (hKq.alloc _) hq1 hg8
            rw [← unhide hny] at ho8'
            clear ho8 hg8 hq1 hq
            go_wp2
            exact ⟨⟨k + 1, sv', by omega, by go_num, rfl, ho8', hE8, hK8⟩, by simp [intOf]; omega⟩
          · have hke : k = N.length := by omega
            subst hke
            rw [List.take_length, ← unhide hnx] at hq
            have Hq := hide hq
            clear hq
            go_wp2
            exact ⟨⟨j + 1, sq, by omega, by go_num, rfl, unhide Hq, hEq⟩, by simp [intOf]; omega⟩
    · have hje : j = afs.length := by omega
      subst hje
      rw [List.take_length] at ho
      have Ho := hide ho
      clear ho
      go_wp2
      go_ret
      exact ⟨sv, rfl, ⟨(unhide Ho).1, by
        rcases (unhide Ho).2 with h0 | ⟨a, b, c, d, e, r⟩
        · exact .inl h0
        · exact .inr ⟨a, b, c, d, by omega, r⟩⟩, hxW.trans hE⟩
end Go.Proofs.YtnppgeiompimaaaGreatDoor

