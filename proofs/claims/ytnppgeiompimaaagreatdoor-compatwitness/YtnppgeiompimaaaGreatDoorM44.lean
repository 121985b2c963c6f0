import Derived.Test.YtnppgeiompimaaaGreatDoorM43
namespace Go.Proofs.YtnppgeiompimaaaGreatDoor
set_option linter.unusedSimpArgs false
set_option linter.unusedVariables false
set_option linter.unusedSimpArgs false
set_option linter.unusedVariables false
open Go.RowKit

theorem heaps5 {w w0 : World} {a b c d e : Obj} (h : w0 = ((((w.alloc a).alloc b).alloc c).alloc d).alloc e) : Ext w w0 ∧ w0.heap.size = w.heap.size + 5 ∧ w0.heap[w.heap.size]? = some a ∧ w0.heap[w.heap.size + 1]? = some b ∧ w0.heap[w.heap.size + 1 + 1]? = some c ∧ w0.heap[w.heap.size + 1 + 1 + 1]? = some d ∧ w0.heap[w.heap.size + 1 + 1 + 1 + 1]? = some e := by
  subst h
  obtain ⟨h0, h1, h2, h3, h4, h5⟩ := heaps4c (w := w) (a := a) (b := b) (c := c) (d := d) rfl
  have x := (Ext.refl ((((w.alloc a).alloc b).alloc c).alloc d)).alloc e
  refine ⟨h0.trans x, by simp, x.heap h2, x.heap h3, x.heap h4, x.heap h5, ?_⟩
  have := heap_alloc_new ((((w.alloc a).alloc b).alloc c).alloc d) e
  simpa using this
/-- What project does at values of a height. -/
def ProjOk (s1 s2 : SV) (ws rs : BookM) (S : TypeM → TypeM → Prop) (Kh : Nat) : Prop :=
  ∀ (tv uv : TV) (t u : TypeM) (sr id : Int) (v : ValueM) (ids l : SV) (w : World), BookAt w s1 ws → BookAt w s2 rs → WordsAt w → TypeAt w tv t → TypeAt w uv u → Msg ws t → Msg rs u → S t u → TypedP ws Kh t v → cntM Kh v ≤ 1000 →
    ValueAt Kh w [.int .i64 v.kind, .int .i64 v.n, .string v.s, .slice ids.a ids.len ids.cap, .slice l.a l.len l.cap] v →
    Calls Tryz.prog 33 #[.agg #[.slice s1.a s1.len s1.cap, .slice s2.a s2.len s2.cap], .agg #[.string tv.name, .bool tv.enum, .slice tv.fields.a tv.fields.len tv.fields.cap, .slice tv.gone.a tv.gone.len tv.gone.cap, .slice tv.items.a tv.items.len tv.items.cap, .string uv.name, .bool uv.enum, .slice uv.fields.a uv.fields.len uv.fields.cap, .slice uv.gone.a uv.gone.len uv.gone.cap, .slice uv.items.a uv.items.len uv.items.cap, .int .i64 sr, .int .i64 id], .agg #[.int .i64 v.kind, .int .i64 v.n, .string v.s, .slice ids.a ids.len ids.cap, .slice l.a l.len l.cap]] w fun e w' => ∃ ids' l' : SV, e = .returned (.agg #[.int .i64 2, .int .i64 0, .string ⟨#[]⟩, .slice ids'.a ids'.len ids'.cap, .slice l'.a l'.len l'.cap]) ∧
      ValueAtP (Btw w w') (Kh + 5) w' [.int .i64 2, .int .i64 0, .string ⟨#[]⟩, .slice ids'.a ids'.len ids'.cap, .slice l'.a l'.len l'.cap] (projM ws rs Kh t u v) ∧ Ext w w'
theorem leafAtS (S : Nat → Prop) (k : Nat) (w : World) (kind n : Int) (s : ByteArray) : ValueAtP S (k + 1) w [.int .i64 kind, .int .i64 n, .string s, .slice none 0 0, .slice none 0 0] ⟨kind, n, s, [], []⟩ :=
  ⟨⟨none, 0, 0⟩, ⟨none, 0, 0⟩, rfl, ⟨rfl, fun i x hx => by simp at hx⟩, ⟨rfl, fun i x hx => by simp at hx⟩, nil_ok, nil_ok, fun ad ha => (by cases ha), fun ad ha => (by cases ha)⟩
theorem cells_of_at {Kh : Nat} {w : World} {a b c d e : Value} {v : ValueM} (h : ValueAt Kh w [a, b, c, d, e] v) : ∃ ids l : SV, a = .int .i64 v.kind ∧ b = .int .i64 v.n ∧ c = .string v.s ∧ d = .slice ids.a ids.len ids.cap ∧ e = .slice l.a l.len l.cap := by
  obtain ⟨ids, l, e1, _⟩ := h.opens
  simp only [List.cons.injEq, and_true] at e1
  exact ⟨ids, l, e1.1, e1.2.1, e1.2.2.1, e1.2.2.2.1, e1.2.2.2.2⟩
set_option maxHeartbeats 6400000 in
set_option maxRecDepth 10000 in
theorem projectOne_of (s1 s2 : SV) (ws rs : BookM) (S : TypeM → TypeM → Prop) (Kh : Nat) (hK : ProjOk s1 s2 ws rs S Kh) (f g : FieldM) (x : ValueM) (ids l : SV) (w : World) (h1 : BookAt w s1 ws) (h2 : BookAt w s2 rs) (hw : WordsAt w) (m1 : ws.Small) (m2 : rs.Small)
    (h5 : f.kind = 5 → Msg ws (typeM ws f) ∧ Msg rs (typeM rs g) ∧ S (typeM ws f) (typeM rs g) ∧ TypedP ws Kh (typeM ws f) x) (hc : cntM Kh x ≤ 1000) (hv : ValueAt Kh w [.int .i64 x.kind, .int .i64 x.n, .string x.s, .slice ids.a ids.len ids.cap, .slice l.a l.len l.cap] x) :
    Calls Tryz.prog 115 #[.agg #[.slice s1.a s1.len s1.cap, .slice s2.a s2.len s2.cap], .agg #[.int .i64 f.id, .string f.name, .string f.type, .int .i64 f.kind, .int .i64 f.rule], .agg #[.int .i64 g.id, .string g.name, .string g.type, .int .i64 g.kind, .int .i64 g.rule], .agg #[.int .i64 x.kind, .int .i64 x.n, .string x.s, .slice ids.a ids.len ids.cap, .slice l.a l.len l.cap]] w fun e w' => ∃ ids' l' : SV, e = .returned (.agg #[.int .i64 (projOne ws rs (projM ws rs Kh) f g x).kind, .int .i64 (projOne ws rs (projM ws rs Kh) f g x).n, .string (projOne ws rs (projM ws rs Kh) f g x).s, .slice ids'.a ids'.len ids'.cap, .slice l'.a l'.len l'.cap]) ∧
      ValueAtP (Btw w w') (Kh + 5) w' [.int .i64 (projOne ws rs (projM ws rs Kh) f g x).kind, .int .i64 (projOne ws rs (projM ws rs Kh) f g x).n, .string (projOne ws rs (projM ws rs Kh) f g x).s, .slice ids'.a ids'.len ids'.cap, .slice l'.a l'.len l'.cap] (projOne ws rs (projM ws rs Kh) f g x) ∧ Ext w w' := by
  obtain ⟨W, hW⟩ : ∃ W, W = ((((w.alloc (.cells #[.slice s1.a s1.len s1.cap, .slice s2.a s2.len s2.cap] 52)).alloc (.cells #[.int .i64 f.id, .string f.name, .string f.type, .int .i64 f.kind, .int .i64 f.rule] 70)).alloc (.cells #[.int .i64 g.id, .string g.name, .string g.type, .int .i64 g.kind, .int .i64 g.rule] 70)).alloc (.cells #[.int .i64 x.kind, .int .i64 x.n, .string x.s, .slice ids.a ids.len ids.cap, .slice l.a l.len l.cap] 37)).alloc (.cells #[.int .i64 0, .int .i64 0, .string ⟨#[]⟩, .slice none 0 0, .slice none 0 0] 37) := ⟨_, rfl⟩
  obtain ⟨hxW, hzW, r0, r1, r2, r3, r4⟩ := heaps5 hW
  have HT := fun w' (hx : Ext w w') => within_any s1 s2 ws rs f g w' (h1.ext hx) (h2.ext hx) m1 m2
  have HK := fun (e : f.kind = 5) (tv uv : TV) w' (hx : Ext w w') (ht : TypeAt w' tv (typeM ws f)) (hu : TypeAt w' uv (typeM rs g)) => hK tv uv (typeM ws f) (typeM rs g) 0 0 x ids l w' (h1.ext hx) (h2.ext hx) (hw.ext hx) ht hu (h5 e).1 (h5 e).2.1 (h5 e).2.2.1 (h5 e).2.2.2 hc (hv.ext hx)
  have hPM : f.kind = 5 → ∀ a b, (projM ws rs Kh a b x).kind = 2 ∧ (projM ws rs Kh a b x).n = 0 ∧ (projM ws rs Kh a b x).s = ⟨#[]⟩ := fun _ a b => by
    cases Kh with
    | zero => exact hv.elim
    | succ Kh => exact ⟨rfl, rfl, rfl⟩
  have hW' := hide hW
  clear hW hK h1 h2 hw m1 m2 h5
  obtain ⟨d0, d1, d2, d3, d4, _⟩ := rowN5 r1
  obtain ⟨x0, x1, x2, x3, x4, _⟩ := rowN5 r3
  have hz1 := lt_of_heap r1
  have hz3 := lt_of_heap r3
  have hz4 := lt_of_heap r4
  obtain ⟨y, hy⟩ : ∃ y, y = projOne ws rs (projM ws rs Kh) f g x := ⟨_, rfl⟩
  rw [← hy]
  unfold projOne at hy
  by_cases hf : f.kind = 5
  · rw [if_pos hf] at hy
    obtain ⟨k1, k2, k3⟩ := hPM hf (typeM ws f) (typeM rs g)
    rw [← hy] at k1 k2 k3
    have HK := HK hf
    rw [← hy] at HK
    have HK := hide HK
    have HT := hide HT
    have hfb : (f.kind == 5) = true := by simp [hf]
    rw [k1, k2, k3]
    clear hPM hy hf k1 k2 k3
    go_enter Tryz.func115, Tryz.ntmps115
    go_wp2_with fail
    rw [← unhide hW']
    refine wp_region_X (fun w' => w'.heap[w.heap.size]? = some (.cells #[.slice s1.a s1.len s1.cap, .slice s2.a s2.len s2.cap] 52 (0, 0)) ∧ w'.heap[w.heap.size + 1]? = some (.cells #[.int .i64 f.id, .string f.name, .string f.type, .int .i64 f.kind, .int .i64 f.rule] 70 (0, 0)) ∧ w'.heap[w.heap.size + 1 + 1]? = some (.cells #[.int .i64 g.id, .string g.name, .string g.type, .int .i64 g.kind, .int .i64 g.rule] 70 (0, 0)) ∧ w'.heap[w.heap.size + 1 + 1 + 1]? = some (.cells #[.int .i64 x.kind, .int .i64 x.n, .string x.s, .slice ids.a ids.len ids.cap, .slice l.a l.len l.cap] 37 (0, 0))) (fun _ => false) (by kernel_rfl) ?_
    obtain ⟨Wd, hWd⟩ : ∃ Wd, Wd = W.drew := ⟨_, rfl⟩
    have fd : Ext W Wd := by rw [hWd]; exact (Ext.refl W).drew
    rw [← hWd]
    clear hWd
    have hS : ∀ {w'}, Ext W w' → w'.heap[w.heap.size]? = some (.cells #[.slice s1.a s1.len s1.cap, .slice s2.a s2.len s2.cap] 52 (0, 0)) ∧ w'.heap[w.heap.size + 1]? = some (.cells #[.int .i64 f.id, .string f.name, .string f.type, .int .i64 f.kind, .int .i64 f.rule] 70 (0, 0)) ∧ w'.heap[w.heap.size + 1 + 1]? = some (.cells #[.int .i64 g.id, .string g.name, .string g.type, .int .i64 g.kind, .int .i64 g.rule] 70 (0, 0)) ∧ w'.heap[w.heap.size + 1 + 1 + 1]? = some (.cells #[.int .i64 x.kind, .int .i64 x.n, .string x.s, .slice ids.a ids.len ids.cap, .slice l.a l.len l.cap] 37 (0, 0)) := fun h => ⟨h.heap r0, h.heap r1, h.heap r2, h.heap r3⟩
    refine wpAnyX_take (i := 0) (v := .agg #[.slice s1.a s1.len s1.cap, .slice s2.a s2.len s2.cap]) rfl (by kernel_rfl) (by kernel_rfl) (fun _ _ _ h => h) (.inl ⟨rfl, fun w' hS => by simp [execOp, go_sem, (rowN2 hS.1).1, (rowN2 hS.1).2.1]⟩) ((hS fd)) ?_
    simp only [Act.put, List.getElem_toArray, List.getElem_cons_zero, List.getElem_cons_succ, List.setIfInBounds_toArray, List.set_cons_succ, List.set_cons_zero]
    refine wpAnyX_take (i := 1) (v := .agg #[.slice s1.a s1.len s1.cap, .slice s2.a s2.len s2.cap]) rfl (by kernel_rfl) (by kernel_rfl) (fun _ _ _ h => h) (.inl ⟨rfl, fun w' hS => by simp [execOp, go_sem, (rowN2 hS.1).1, (rowN2 hS.1).2.1]⟩) ((hS fd)) ?_
    simp only [Act.put, List.getElem_toArray, List.getElem_cons_zero, List.getElem_cons_succ, List.setIfInBounds_toArray, List.set_cons_succ, List.set_cons_zero]
    refine wpAnyX_take (i := 2) (v := .agg #[.int .i64 f.id, .string f.name, .string f.type, .int .i64 f.kind, .int .i64 f.rule]) rfl (by kernel_rfl) (by kernel_rfl) (fun _ _ _ h => h) (.inl ⟨rfl, fun w' hS => by simp [execOp, go_sem, (rowN5 hS.2.1).1, (rowN5 hS.2.1).2.1, (rowN5 hS.2.1).2.2.1, (rowN5 hS.2.1).2.2.2.1, (rowN5 hS.2.1).2.2.2.2.1]⟩) ((hS fd)) ?_
    simp only [Act.put, List.getElem_toArray, List.getElem_cons_zero, List.getElem_cons_succ, List.setIfInBounds_toArray, List.set_cons_succ, List.set_cons_zero]
    refine wpAnyX_take (i := 3) (v := .agg #[.int .i64 g.id, .string g.name, .string g.type, .int .i64 g.kind, .int .i64 g.rule]) rfl (by kernel_rfl) (by kernel_rfl) (fun _ _ _ h => h) (.inl ⟨rfl, fun w' hS => by simp [execOp, go_sem, (rowN5 hS.2.2.1).1, (rowN5 hS.2.2.1).2.1, (rowN5 hS.2.2.1).2.2.1, (rowN5 hS.2.2.1).2.2.2.1, (rowN5 hS.2.2.1).2.2.2.2.1]⟩) ((hS fd)) ?_
    simp only [Act.put, List.getElem_toArray, List.getElem_cons_zero, List.getElem_cons_succ, List.setIfInBounds_toArray, List.set_cons_succ, List.set_cons_zero]
    refine wpAnyX_take (i := 5) (v := .agg #[.int .i64 x.kind, .int .i64 x.n, .string x.s, .slice ids.a ids.len ids.cap, .slice l.a l.len l.cap]) rfl (by kernel_rfl) (by kernel_rfl) (fun _ _ _ h => h) (.inl ⟨rfl, fun w' hS => by simp [execOp, go_sem, (rowN5 hS.2.2.2).1, (rowN5 hS.2.2.2).2.1, (rowN5 hS.2.2.2).2.2.1, (rowN5 hS.2.2.2).2.2.2.1, (rowN5 hS.2.2.2).2.2.2.2.1]⟩) ((hS fd)) ?_
    simp only [Act.put, List.getElem_toArray, List.getElem_cons_zero, List.getElem_cons_succ, List.setIfInBounds_toArray, List.set_cons_succ, List.set_cons_zero]
    refine wpAnyX_one (j := 4) rfl (by kernel_rfl) rfl fun K hK => ?_
    go_wp2_with fail
    refine (unhide HT Wd (hxW.trans fd)).mono ?_
    rintro e wa ⟨tv, uv, rfl, ht, hu, xa, _, _⟩
    have fa := fd.trans xa
    have HKa := hide (unhide HK tv uv wa (hxW.trans fa) ht hu)
    clear ht hu
    go_wp2
    refine hK.out _ _ ((hS fa)) ?_
    clear hK K
    refine wpAnyX_one (j := 6) rfl (by kernel_rfl) rfl fun K hK => ?_
    go_wp2_with fail
    refine (unhide HKa).mono ?_
    rintro e wb ⟨ids', l', rfl, hvb, xb⟩
    have fb := fa.trans xb
    have r4b := fb.heap r4
    obtain ⟨W6, hW6, r6, hx6, hk6, hs6⟩ := setN5 r4b (.int .i64 2) (.int .i64 0) (.string ⟨#[]⟩) (.slice ids'.a ids'.len ids'.cap) (.slice l'.a l'.len l'.cap)
    have hz4b := lt_of_heap r4b
    have f6 := hx6 w (hxW.trans fb) (by omega)
    have hv6 : ValueAtP (Btw w W6) (Kh + 5) W6 [.int .i64 2, .int .i64 0, .string ⟨#[]⟩, .slice ids'.a ids'.len ids'.cap, .slice l'.a l'.len l'.cap] y := by
      refine ((hvb.keep fun b ob hb ho => ?_).sub fun b hb => ?_)
      · have h1 := hb.1
        have h2 := fa.size
        rw [hk6 b (by omega)]; exact ho
      · have h1 := hb.1
        have h2 := hb.2
        have h3 := (hxW.trans fa).size
        exact ⟨by omega, by rw [hs6]; omega⟩
    obtain ⟨k0', k1', k2', k3', k4', _⟩ := rowN5 r6
    have hS6 : W6.heap[w.heap.size]? = some (.cells #[.slice s1.a s1.len s1.cap, .slice s2.a s2.len s2.cap] 52 (0, 0)) ∧ W6.heap[w.heap.size + 1]? = some (.cells #[.int .i64 f.id, .string f.name, .string f.type, .int .i64 f.kind, .int .i64 f.rule] 70 (0, 0)) ∧ W6.heap[w.heap.size + 1 + 1]? = some (.cells #[.int .i64 g.id, .string g.name, .string g.type, .int .i64 g.kind, .int .i64 g.rule] 70 (0, 0)) ∧ W6.heap[w.heap.size + 1 + 1 + 1]? = some (.cells #[.int .i64 x.kind, .int .i64 x.n, .string x.s, .slice ids.a ids.len ids.cap, .slice l.a l.len l.cap] 37 (0, 0)) := ⟨(hk6 _ (by omega)).trans (fb.heap r0), (hk6 _ (by omega)).trans (fb.heap r1), (hk6 _ (by omega)).trans (fb.heap r2), (hk6 _ (by omega)).trans (fb.heap r3)⟩
    have HW6 := hide hW6
    have Hv6 := hide (And.intro hv6 f6)
    obtain ⟨z0, z1, z2, z3, z4, zf⟩ := rowN5 r4b
    clear hW6 hx6 hk6 hs6 hv6 f6 hvb
    go_wp2
    refine hK.out _ _ ((hS fb)) ?_
    clear hK K
    refine wpAnyX_one (j := 7) rfl (by kernel_rfl) rfl fun K hK => ?_
    go_wp2
    rw [← unhide HW6]
    refine hK.out _ _ (hS6) ?_
    clear hK K
    refine wpAnyX_end [] [] rfl (by intro j i hj; simp at hj) (by kernel_rfl) (by intro i hi; simp at hi) fun K hK => ?_
    go_wp2
    refine hK.out _ _ ?_
    clear hK K
    clear z0 z1 z2 z3 z4 zf
    go_wp2
    exact bodyPost_ret (v := .agg #[.int .i64 2, .int .i64 0, .string ⟨#[]⟩, .slice ids'.a ids'.len ids'.cap, .slice l'.a l'.len l'.cap]) (by simp [results, Tryz.results115, go_sem, k0', k1', k2', k3', k4']) rfl ⟨ids', l', rfl, (unhide Hv6).1, (unhide Hv6).2⟩
  · rw [if_neg hf] at hy
    have hyk : y.kind = x.kind ∧ y.n = x.n ∧ y.s = x.s := by rw [hy]; exact ⟨rfl, rfl, rfl⟩
    obtain ⟨k1, k2, k3⟩ := hyk
    rw [k1, k2, k3]
    obtain ⟨W6, hW6⟩ : ∃ W6, W6 = ((((w.alloc (.cells #[.slice s1.a s1.len s1.cap, .slice s2.a s2.len s2.cap] 52)).alloc (.cells #[.int .i64 f.id, .string f.name, .string f.type, .int .i64 f.kind, .int .i64 f.rule] 70)).alloc (.cells #[.int .i64 g.id, .string g.name, .string g.type, .int .i64 g.kind, .int .i64 g.rule] 70)).alloc (.cells #[.int .i64 x.kind, .int .i64 x.n, .string x.s, .slice ids.a ids.len ids.cap, .slice l.a l.len l.cap] 37)).alloc (.cells #[.int .i64 x.kind, .int .i64 x.n, .string x.s, .slice none 0 0, .slice none 0 0] 37) := ⟨_, rfl⟩
    obtain ⟨f6, _, _, _, _, _, r6⟩ := heaps5 hW6
    obtain ⟨k0', k1', k2', k3', k4', _⟩ := rowN5 r6
    have HW6 := hide hW6
    have Hf6 := hide f6
    have Hy := hide hy
    have hfb : (f.kind == 5) = false := by simpa using hf
    clear hW6 HT HK hPM f6 hy hf k1 k2 k3
    go_enter Tryz.func115, Tryz.ntmps115
    go_wp2
    rw [← unhide HW6]
    exact bodyPost_ret (v := .agg #[.int .i64 x.kind, .int .i64 x.n, .string x.s, .slice none 0 0, .slice none 0 0]) (by simp [results, Tryz.results115, go_sem, k0', k1', k2', k3', k4']) rfl ⟨⟨none, 0, 0⟩, ⟨none, 0, 0⟩, rfl, by rw [unhide Hy]; exact leafAtS _ _ _ _ _ _, unhide Hf6⟩
end Go.Proofs.YtnppgeiompimaaaGreatDoor

namespace Go.Proofs.YtnppgeiompimaaaGreatDoor
set_option linter.unusedSimpArgs false
set_option linter.unusedVariables false
open Go.RowKit

def preK (ws rs : BookM) (rec : TypeM → TypeM → ValueM → ValueM) (f g : FieldM) (v : ValueM) (j : Nat) : List ValueM := (((v.ids.zip v.l).take j).filter fun p => p.1 == g.id).map fun p => projOne ws rs rec f g p.2
theorem zip_at {ids : List Int} {l : List ValueM} {j : Nat} {d : Int} {x : ValueM} (hd : ids[j]? = some d) (hx : l[j]? = some x) : (ids.zip l)[j]? = some (d, x) := by
  rw [List.getElem?_zip_eq_some]; exact ⟨hd, hx⟩
theorem preK_same {ws rs : BookM} {rec : TypeM → TypeM → ValueM → ValueM} {f g : FieldM} {v : ValueM} {j : Nat} {d : Int} {x : ValueM} (hd : v.ids[j]? = some d) (hx : v.l[j]? = some x) (e : d = g.id) : preK ws rs rec f g v (j + 1) = preK ws rs rec f g v j ++ [projOne ws rs rec f g x] := by
  unfold preK
  rw [List.take_add_one, zip_at hd hx]
  simp [e]
theorem preK_other {ws rs : BookM} {rec : TypeM → TypeM → ValueM → ValueM} {f g : FieldM} {v : ValueM} {j : Nat} {d : Int} {x : ValueM} (hd : v.ids[j]? = some d) (hx : v.l[j]? = some x) (e : d ≠ g.id) : preK ws rs rec f g v (j + 1) = preK ws rs rec f g v j := by
  unfold preK
  rw [List.take_add_one, zip_at hd hx]
  simp [e]
theorem preK_all {ws rs : BookM} {rec : TypeM → TypeM → ValueM → ValueM} {f g : FieldM} {t : TypeM} {v : ValueM} (hf : fieldM t g.id = some f) : preK ws rs rec f g v v.ids.length = projField ws rs rec t g v := by
  unfold preK projField
  rw [hf, List.take_of_length_le (by rw [List.length_zip]; omega)]
theorem preK_len {ws rs : BookM} {rec : TypeM → TypeM → ValueM → ValueM} {f g : FieldM} {v : ValueM} {j : Nat} : (preK ws rs rec f g v j).length ≤ j := by
  unfold preK
  rw [List.length_map]
  exact Nat.le_trans (List.length_filter_le _ _) (by rw [List.length_take]; omega)
theorem projField_len {ws rs : BookM} {rec : TypeM → TypeM → ValueM → ValueM} {g : FieldM} {t : TypeM} {v : ValueM} : (projField ws rs rec t g v).length ≤ v.ids.length := by
  cases hf : fieldM t g.id with
  | none => unfold projField; rw [hf]; simp
  | some f => rw [← preK_all hf]; exact preK_len
/-- What is known of a reader's field, where the writer has one of its id. -/
theorem known_of {ws rs : BookM} {S : TypeM → TypeM → Prop} {Kh : Nat} (hgw : goodM ws = 0) (hgr : goodM rs = 0) (hS : NoFlaw ws rs S) {t u : TypeM} {f g : FieldM} {v : ValueM} (hmt : Msg ws t) (hmu : Msg rs u) (hst : S t u) (hg : fieldM u g.id = some g) (hf : fieldM t g.id = some f) (hty : TypedP ws (Kh + 1) t v) :
    (f.kind = 5 → Msg ws (typeM ws f) ∧ Msg rs (typeM rs g) ∧ S (typeM ws f) (typeM rs g)) ∧ ∀ (j : Nat) (x : ValueM), v.ids[j]? = some g.id → v.l[j]? = some x → f.kind = 5 → TypedP ws Kh (typeM ws f) x := by
  obtain ⟨_, _, _, h4, _, h6, _⟩ := hty
  have hid := fieldM_id hf
  have hgf : fieldM u f.id = some g := by rw [hid]; exact hg
  have hw := hS.whys t u hst f (fieldM_mem hf) g hgf
  refine ⟨fun h5 => ?_, fun j x hj hx h5 => ?_⟩
  · obtain ⟨hk, _⟩ := whys_none hw
    have g5 : g.kind = 5 := by
      rcases kindN_cases (hmu.field hgr (fieldM_mem hg)).2.1 with ⟨_, e⟩ | ⟨e, _⟩ | ⟨_, _, e⟩
      · have : kindN f.kind = 2 := by unfold kindN; rw [if_neg (by omega), if_pos h5]
        omega
      · exact e
      · have : kindN f.kind = 2 := by unfold kindN; rw [if_neg (by omega), if_pos h5]
        omega
    exact ⟨hmt.sub hgw (fieldM_mem hf) h5, hmu.sub hgr (fieldM_mem hg) g5, hS.next t u hst f (fieldM_mem hf) g hgf h5 g5⟩
  · obtain ⟨f', hf', _, hr⟩ := h6 (g.id, x) (List.mem_of_getElem? (zip_at hj hx))
    simp only at hf' hr
    rw [hf] at hf'
    cases hf'
    exact hr h5
set_option maxHeartbeats 12800000 in
set_option maxRecDepth 10000 in
theorem projectField_of (s1 s2 : SV) (ws rs : BookM) (S : TypeM → TypeM → Prop) (Kh : Nat) (hK : ProjOk s1 s2 ws rs S Kh) (hgw : goodM ws = 0) (hgr : goodM rs = 0) (hS : NoFlaw ws rs S) (tv uv : TV) (t u : TypeM) (sr id : Int) (g : FieldM) (v : ValueM) (ids l : SV) (w : World)
    (h1 : BookAt w s1 ws) (h2 : BookAt w s2 rs) (hw : WordsAt w) (m1 : ws.Small) (m2 : rs.Small) (ht : TypeAt w tv t) (hmt : Msg ws t) (hmu : Msg rs u) (hst : S t u) (hg : fieldM u g.id = some g) (hty : TypedP ws (Kh + 1) t v) (hc : cntM (Kh + 1) v ≤ 1000)
    (hv : ValueAt (Kh + 1) w [.int .i64 v.kind, .int .i64 v.n, .string v.s, .slice ids.a ids.len ids.cap, .slice l.a l.len l.cap] v) :
    Calls Tryz.prog 66 #[.agg #[.slice s1.a s1.len s1.cap, .slice s2.a s2.len s2.cap], .agg #[.string tv.name, .bool tv.enum, .slice tv.fields.a tv.fields.len tv.fields.cap, .slice tv.gone.a tv.gone.len tv.gone.cap, .slice tv.items.a tv.items.len tv.items.cap, .string uv.name, .bool uv.enum, .slice uv.fields.a uv.fields.len uv.fields.cap, .slice uv.gone.a uv.gone.len uv.gone.cap, .slice uv.items.a uv.items.len uv.items.cap, .int .i64 sr, .int .i64 id], .agg #[.int .i64 g.id, .string g.name, .string g.type, .int .i64 g.kind, .int .i64 g.rule], .agg #[.int .i64 v.kind, .int .i64 v.n, .string v.s, .slice ids.a ids.len ids.cap, .slice l.a l.len l.cap]] w fun e w' => ∃ sv : SV, e = .returned (.slice sv.a sv.len sv.cap) ∧ VRow (Kh + 5) w' w.heap.size (fun b => w.heap.size ≤ b) none (.slice sv.a sv.len sv.cap) (projField ws rs (projM ws rs Kh) t g v) ∧ Ext w w' := by
  obtain ⟨W, hW⟩ : ∃ W, W = (((w.alloc (.cells #[.slice s1.a s1.len s1.cap, .slice s2.a s2.len s2.cap] 52)).alloc (.cells #[.string tv.name, .bool tv.enum, .slice tv.fields.a tv.fields.len tv.fields.cap, .slice tv.gone.a tv.gone.len tv.gone.cap, .slice tv.items.a tv.items.len tv.items.cap, .string uv.name, .bool uv.enum, .slice uv.fields.a uv.fields.len uv.fields.cap, .slice uv.gone.a uv.gone.len uv.gone.cap, .slice uv.items.a uv.items.len uv.items.cap, .int .i64 sr, .int .i64 id] 54)).alloc (.cells #[.int .i64 g.id, .string g.name, .string g.type, .int .i64 g.kind, .int .i64 g.rule] 70)).alloc (.cells #[.int .i64 v.kind, .int .i64 v.n, .string v.s, .slice ids.a ids.len ids.cap, .slice l.a l.len l.cap] 37) := ⟨_, rfl⟩
  obtain ⟨hxW, hzW, r0, r1, r2, r3⟩ := heaps4c hW
  have hfl := hmt.len hgw
  have HF := fun w' (hx : Ext w w') => fieldOf_any tv t g.id w' (ht.ext hx) (by omega)
  have HKn := fun f (hf : fieldM t g.id = some f) => known_of hgw hgr hS hmt hmu hst hg hf hty
  have hO := fun (f : FieldM) (h5 : f.kind = 5 → Msg ws (typeM ws f) ∧ Msg rs (typeM rs g) ∧ S (typeM ws f) (typeM rs g)) (x : ValueM) (xi xl : SV) w' (hx : Ext w w') (h6 : f.kind = 5 → TypedP ws Kh (typeM ws f) x) hcx hvx => projectOne_of s1 s2 ws rs S Kh hK f g x xi xl w' (h1.ext hx) (h2.ext hx) (hw.ext hx) m1 m2 (fun e => ⟨(h5 e).1, (h5 e).2.1, (h5 e).2.2, h6 e⟩) hcx hvx
  have hll : v.l.length = v.ids.length := hty.2.2.2.1
  have hPn : fieldM t g.id = none → projField ws rs (projM ws rs Kh) t g v = [] := fun h => by unfold projField; rw [h]
  have hPf := fun f (hf : fieldM t g.id = some f) => preK_all (ws := ws) (rs := rs) (rec := projM ws rs Kh) (v := v) hf
  have hPs := fun (f : FieldM) (j : Nat) (d : Int) (x : ValueM) hd hx e => preK_same (ws := ws) (rs := rs) (rec := projM ws rs Kh) (f := f) (g := g) (v := v) (j := j) (d := d) (x := x) hd hx e
  have hPo := fun (f : FieldM) (j : Nat) (d : Int) (x : ValueM) hd hx e => preK_other (ws := ws) (rs := rs) (rec := projM ws rs Kh) (f := f) (g := g) (v := v) (j := j) (d := d) (x := x) hd hx e
  have hPl := fun (f : FieldM) (j : Nat) => preK_len (ws := ws) (rs := rs) (rec := projM ws rs Kh) (f := f) (g := g) (v := v) (j := j)
  have hP0 := fun (f : FieldM) => (show preK ws rs (projM ws rs Kh) f g v 0 = [] from rfl)
  generalize projField ws rs (projM ws rs Kh) t g v = PF at *
  generalize preK ws rs (projM ws rs Kh) = PK at *
  obtain ⟨iv, lv, hcs, hints, hls, hiok, hlok⟩ := hv
  simp only [List.cons.injEq, and_true, Value.slice.injEq, true_and] at hcs
  obtain ⟨⟨i1, i2, i3⟩, l1, l2, l3⟩ := hcs
  have hil := hints.1
  have hlll := hls.1
  have hcx : ∀ x ∈ v.l, cntM Kh x ≤ 1000 := fun x hx => by
    have h0 : 1 + sumL (cntM Kh) v.l ≤ 1000 := hc
    have := sumL_mem (f := cntM Kh) hx
    omega
  have hvl : v.ids.length ≤ 1000 := by
    have h0 : 1 + sumL (cntM Kh) v.l ≤ 1000 := hc
    have := sum_inC (k := Kh) (l := v.l) fun x hx => by
      obtain ⟨i, hi, rfl⟩ := List.getElem_of_mem hx
      obtain ⟨_, _, _, _, _, h⟩ := hls.2 i _ (List.getElem?_eq_getElem hi)
      exact h.fits
    omega
  have hints0 := hints
  have Hv := hide (And.intro hints hls)
  obtain ⟨ia, iln, ic⟩ := ids
  obtain ⟨la, lln, lc⟩ := l
  obtain ⟨ja, jln, jc⟩ := iv
  obtain ⟨ma, mln, mc⟩ := lv
  simp only at i1 i2 i3 l1 l2 l3 hil hlll
  subst i1 i2 i3 l1 l2 l3
  subst hil hlll
  have hPK := hide (And.intro hPf (And.intro hPs (And.intro hPo (And.intro hPl hP0))))
  have HF := hide HF
  have HKn := hide HKn
  have hO := hide hO
  have hPn := hide hPn
  have Hcx := hide hcx
  have HW := hide hW
  have Hll := hide hll
  clear hints hls hints0 hPf hPs hPo hPl hP0 hcx hW hiok hlok hll h1 h2 hw m1 m2 ht hmt hmu hst hg hty hc hK hS hgw hgr
  obtain ⟨a0, a1, _⟩ := rowN2 r0
  obtain ⟨d0, d1, d2, d3, d4, d5, d6, d7, d8, d9, d10, d11, _⟩ := rowN12 r1
  obtain ⟨g0, g1, g2, g3, g4, _⟩ := rowN5 r2
  obtain ⟨v0, v1, v2, v3, v4, _⟩ := rowN5 r3
  have z0 := lt_of_heap r0
  have z1 := lt_of_heap r1
  have z2 := lt_of_heap r2
  have z3 := lt_of_heap r3
  go_enter Tryz.func66, Tryz.ntmps66
  have hcF := unhide HF W hxW
  cases hfb : fieldM t g.id with
  | none =>
    rw [hfb] at hcF
    have HcF := hide hcF
    have hfb' := hide hfb
    clear hcF hfb
    go_wp2_with fail
    rw [← unhide HW]
    refine (unhide HcF).mono ?_
    rintro e w3 ⟨rfl, x3⟩
    clear a0 a1 d0 d1 d2 d3 d4 d5 d6 d7 d8 d9 d10 d11 g0 g1 g2 g3 g4 v0 v1 v2 v3 v4
    go_wp2
    go_ret
    exact ⟨⟨none, 0, 0⟩, rfl, by rw [unhide hPn (unhide hfb')]; exact VRow.nil _ _ _ _ _, (hxW.trans x3).alloc _⟩
  | some f =>
    rw [hfb] at hcF
    have HcF := hide hcF
    obtain ⟨hk5, hkt⟩ := unhide HKn f hfb
    have Hk5 := hide hk5
    have Hkt := hide hkt
    have hPff := unhide hPK
    have hend := hPff.1 f hfb
    have Hend := hide hend
    clear hcF hk5 hkt hPff hend
    have hfb' := hide hfb
    clear hfb
    go_wp2_with fail
    rw [← unhide HW]
    refine (unhide HcF).mono ?_
    rintro e w3 ⟨rfl, x3⟩
    obtain ⟨W1, hW1⟩ : ∃ W1, W1 = w3.alloc (.cells #[.int .i64 f.id, .string f.name, .string f.type, .int .i64 f.kind, .int .i64 f.rule] 70) := ⟨_, rfl⟩
    have x31 : Ext w3 W1 := by rw [hW1]; exact (Ext.refl w3).alloc _
    have rF : W1.heap[w3.heap.size]? = some (.cells #[.int .i64 f.id, .string f.name, .string f.type, .int .i64 f.kind, .int .i64 f.rule] 70 (0, 0)) := by rw [hW1]; exact heap_alloc_new w3 _
    have xW1 := x3.trans x31
    have HW1 := hide hW1
    clear hW1 a0 a1 d0 d1 d2 d3 d4 d5 d6 d7 d8 d9 d10 d11 g0 g1 g2 g3 g4 v0 v1 v2 v3 v4 z0 z1 z2 z3
    obtain ⟨v0, v1, v2, v3, v4, _⟩ := rowN5 (x3.heap r3)
    have z3 := lt_of_heap (x3.heap r3)
    go_wp2
    rw [← unhide HW1]
    clear v0 v1 v2 v3 v4 z3
    have hxw1 := hxW.trans xW1
    go_loopw [11, 27] (fun sl u wr => ∃ (j : Nat) (vL : SV), sl = .slice vL.a vL.len vL.cap ∧ u = .int .i64 j ∧ j ≤ v.ids.length ∧ VRow (Kh + 5) wr W1.heap.size (fun b => W1.heap.size ≤ b) none (.slice vL.a vL.len vL.cap) (PK f g v j) ∧ Ext W1 wr) (fun _ u _ => v.ids.length - (intOf u).toNat)
    case atStart => exact ⟨0, ⟨none, 0, 0⟩, rfl, rfl, by omega, by rw [(unhide hPK).2.2.2.2 f]; exact VRow.nil _ _ _ _ _, Ext.refl _⟩
    case round =>
      obtain ⟨j, vL, rfl, rfl, hj, hvr, hE⟩ := hrel
      have hEw := hxw1.trans hE
      by_cases hlt : j < v.ids.length
      · obtain ⟨d, hd⟩ : ∃ d, v.ids[j]? = some d := ⟨v.ids[j], by simp [hlt]⟩
        obtain ⟨x, hx⟩ : ∃ x, v.l[j]? = some x := ⟨v.l[j]'(by have := unhide Hll; omega), List.getElem?_eq_getElem _⟩
        obtain ⟨ib, io, ics, eia, hir, hic⟩ := (unhide Hv).1.2 j d hd
        obtain ⟨lb, lo, lcs, ela, hlr, hlv⟩ := (unhide Hv).2.2 j x hx
        simp only at eia ela
        subst eia ela
        subst hic
        have hi0 := hEw.cell (hir 0 _ rfl)
        simp only [Nat.add_zero, Nat.mul_one] at hi0
        have hlvw := hlv
        obtain ⟨xi, xl, rfl, _⟩ := hlvw.opens
        obtain ⟨x0, x1, x2, x3c, x4⟩ := range5 (hxw1.range hlr)
        obtain ⟨gg0, gg1, gg2, gg3, gg4, _⟩ := rowN5 (hE.heap (xW1.heap r2))
        have zg := lt_of_heap (hE.heap (xW1.heap r2))
        have Hvr := hide hvr
        have Hlv := hide hlv
        have Hd := hide hd
        have Hx := hide hx
        clear hvr hlv hlvw hir hlr hd hx
        by_cases hde : d = g.id
        · have hdb : (d == g.id) = true := by simp [hde]
          have hpk := (unhide hPK).2.1 f j d x (unhide Hd) (unhide Hx) hde
          have hOn := fun w' (hx' : Ext W1 w') => unhide hO f (unhide Hk5) x xi xl w' (hxw1.trans hx') (fun e => unhide Hkt j x (by rw [← hde]; exact unhide Hd) (unhide Hx) e) (unhide Hcx x (List.mem_of_getElem? (unhide Hx))) ((unhide Hlv).ext (hxw1.trans hx'))
          have Hpk := hide hpk
          have HOn := hide hOn
          have Hde := hide hde
          clear hpk hOn hde
          have hjl : (j : Int) < (v.l.length : Int) := by have := unhide Hll; omega
          have hj0 : ¬ ((j : Int) < 0) := by omega
          have Q0 := xW1.heap r0
          have Q2 := xW1.heap r2
          have Q3 := xW1.heap r3
          obtain ⟨a0, a1, _⟩ := rowN2 Q0
          obtain ⟨b0, b1, b2, b3, b4, _⟩ := rowN5 Q2
          obtain ⟨y0, y1, y2, y3, y4, _⟩ := rowN5 Q3
          obtain ⟨f0, f1, f2, f3, f4, _⟩ := rowN5 rF
          go_wp2_with fail
          refine wp_region_X (fun w' => Ext W1 w') (fun _ => false) (by kernel_rfl) ?_
          obtain ⟨Wd, hWd⟩ : ∃ Wd, Wd = wr.drew := ⟨_, rfl⟩
          have fd : Ext wr Wd := by rw [hWd]; exact (Ext.refl wr).drew
          have hS0 := hE.trans fd
          rw [← hWd]
          clear hWd
          refine wpAnyX_take (i := 0) (v := .slice vL.a vL.len vL.cap) rfl (by kernel_rfl) (by kernel_rfl) (fun _ _ _ h => h) (.inl ⟨rfl, fun w' hS => by simp [execOp, go_sem]⟩) (hS0) ?_
          simp only [Act.put, List.getElem_toArray, List.getElem_cons_zero, List.getElem_cons_succ, List.setIfInBounds_toArray, List.set_cons_succ, List.set_cons_zero]
          refine wpAnyX_take (i := 1) (v := .agg #[.slice s1.a s1.len s1.cap, .slice s2.a s2.len s2.cap]) rfl (by kernel_rfl) (by kernel_rfl) (fun _ _ _ h => h) (.inl ⟨rfl, fun w' hS => by simp [execOp, go_sem, hS.cell a0, hS.cell a1]⟩) (hS0) ?_
          simp only [Act.put, List.getElem_toArray, List.getElem_cons_zero, List.getElem_cons_succ, List.setIfInBounds_toArray, List.set_cons_succ, List.set_cons_zero]
          refine wpAnyX_take (i := 2) (v := .agg #[.int .i64 f.id, .string f.name, .string f.type, .int .i64 f.kind, .int .i64 f.rule]) rfl (by kernel_rfl) (by kernel_rfl) (fun _ _ _ h => h) (.inl ⟨rfl, fun w' hS => by simp [execOp, go_sem, hS.cell f0, hS.cell f1, hS.cell f2, hS.cell f3, hS.cell f4]⟩) (hS0) ?_
          simp only [Act.put, List.getElem_toArray, List.getElem_cons_zero, List.getElem_cons_succ, List.setIfInBounds_toArray, List.set_cons_succ, List.set_cons_zero]
          refine wpAnyX_take (i := 3) (v := .agg #[.int .i64 g.id, .string g.name, .string g.type, .int .i64 g.kind, .int .i64 g.rule]) rfl (by kernel_rfl) (by kernel_rfl) (fun _ _ _ h => h) (.inl ⟨rfl, fun w' hS => by simp [execOp, go_sem, hS.cell b0, hS.cell b1, hS.cell b2, hS.cell b3, hS.cell b4]⟩) (hS0) ?_
          simp only [Act.put, List.getElem_toArray, List.getElem_cons_zero, List.getElem_cons_succ, List.setIfInBounds_toArray, List.set_cons_succ, List.set_cons_zero]
          refine wpAnyX_take (i := 4) (v := .pointer (some ⟨w.heap.size + 1 + 1 + 1, 4, none⟩)) rfl (by kernel_rfl) (by kernel_rfl) (fun _ _ _ h => h) (.inl ⟨rfl, fun w' hS => by simp [execOp, go_sem]⟩) (hS0) ?_
          simp only [Act.put, List.getElem_toArray, List.getElem_cons_zero, List.getElem_cons_succ, List.setIfInBounds_toArray, List.set_cons_succ, List.set_cons_zero]
          refine wpAnyX_take (i := 5) (v := .slice (some ⟨lb, lo, none⟩) v.l.length lc) rfl (by kernel_rfl) (by kernel_rfl) (fun _ _ _ h => h) (.inl ⟨rfl, fun w' hS => by simp [execOp, go_sem, hS.cell y4]⟩) (hS0) ?_
          simp only [Act.put, List.getElem_toArray, List.getElem_cons_zero, List.getElem_cons_succ, List.setIfInBounds_toArray, List.set_cons_succ, List.set_cons_zero]
          refine wpAnyX_take (i := 6) (v := .int .i64 j) rfl (by kernel_rfl) (by kernel_rfl) (fun _ _ _ h => h) (.inl ⟨rfl, fun w' hS => by simp [execOp, go_sem]⟩) (hS0) ?_
          simp only [Act.put, List.getElem_toArray, List.getElem_cons_zero, List.getElem_cons_succ, List.setIfInBounds_toArray, List.set_cons_succ, List.set_cons_zero]
          refine wpAnyX_take (i := 7) (v := .pointer (some ⟨lb, lo + j * 5, none⟩)) rfl (by kernel_rfl) (by kernel_rfl) (fun _ _ _ h => h) (.inl ⟨rfl, fun w' hS => by simp [execOp, go_sem, hjl, hj0]⟩) (hS0) ?_
          simp only [Act.put, List.getElem_toArray, List.getElem_cons_zero, List.getElem_cons_succ, List.setIfInBounds_toArray, List.set_cons_succ, List.set_cons_zero]
          refine wpAnyX_take (i := 8) (v := .agg #[.int .i64 x.kind, .int .i64 x.n, .string x.s, .slice xi.a xi.len xi.cap, .slice xl.a xl.len xl.cap]) rfl (by kernel_rfl) (by kernel_rfl) (fun _ _ _ h => h) (.inl ⟨rfl, fun w' hS => by simp [execOp, go_sem, hS.cell x0, hS.cell x1, hS.cell x2, hS.cell x3c, hS.cell x4]⟩) (hS0) ?_
          simp only [Act.put, List.getElem_toArray, List.getElem_cons_zero, List.getElem_cons_succ, List.setIfInBounds_toArray, List.set_cons_succ, List.set_cons_zero]
          refine wpAnyX_one (j := 9) rfl (by kernel_rfl) rfl fun K hK => ?_
          go_wp2_with fail
          refine (unhide HOn Wd hS0).mono ?_
          rintro e w4 ⟨oi, ol, rfl, hov, x4w⟩
          have f4w := hS0.trans x4w
          generalize projOne ws rs (projM ws rs Kh) f g x = y at *
          have Hov := hide hov
          clear hov
          go_wp2
          refine hK.out _ _ (f4w) ?_
          clear hK K
          refine wpAnyX_one (j := 10) rfl (by kernel_rfl) rfl fun K hK => ?_
          go_wp2
          obtain ⟨W5, hW5⟩ : ∃ W5, W5 = w4.alloc (.cells #[.int .i64 y.kind, .int .i64 y.n, .string y.s, .slice oi.a oi.len oi.cap, .slice ol.a ol.len ol.cap] 37) := ⟨_, rfl⟩
          have x5 : Ext w4 W5 := by rw [hW5]; exact (Ext.refl w4).alloc _
          have r5 : W5.rangeAt w4.heap.size 0 [.int .i64 y.kind, .int .i64 y.n, .string y.s, .slice oi.a oi.len oi.cap, .slice ol.a ol.len ol.cap] := by rw [hW5]; exact range_of_new5 _ _ _ _ _ _ _ rfl
          rw [← hW5]
          clear hW5
          have f5w := f4w.trans x5
          refine hK.out _ _ (f5w) ?_
          clear hK K
          have hlt0 := VRow.lt (unhide Hvr)
          have hx45 := (fd.trans x4w).trans x5
          have hvr5 := (unhide Hvr).ext hx45
          have hlen := (unhide hPK).2.2.2.1 f j
          obtain ⟨css, hc1, hc2, hc3⟩ := hvr5
          have hy5 : ValueAtP (fun b => W1.heap.size ≤ b ∧ Value.ownBlock (.slice vL.a vL.len vL.cap) ≠ some b ∧ none ≠ some b ∧ b < W5.heap.size) (Kh + 5) W5 [.int .i64 y.kind, .int .i64 y.n, .string y.s, .slice oi.a oi.len oi.cap, .slice ol.a ol.len ol.cap] y :=
            ((unhide Hov).ext x5).sub fun b hb => by
              have h1 := hb.1
              have h2 := hb.2
              have h3 := hS0.size
              have h4 := fd.size
              have h5 := x5.size
              refine ⟨by omega, fun e => ?_, (by intro e; cases e), by omega⟩
              have := (hlt0 b e).2
              omega
          have hb5 : W1.heap.size ≤ W5.heap.size := f5w.size
          have Hc1 := hide hc1
          refine wpAnyX_one (j := 11) rfl (by kernel_rfl) rfl fun K hK => ?_
          refine wpList_app1w _ _ 35 37 (.agg #[.int .i64 0, .int .i64 0, .string ⟨#[]⟩, .slice none 0 0, .slice none 0 0]) 5 80 Tryz.underlying35 info28 rfl (by decide) (by decide) rfl rfl W1.heap.size (.slice vL.a vL.len vL.cap) (PK f g v j).length _ rfl (unhide Hc1) w4.heap.size 1 [.int .i64 y.kind, .int .i64 y.n, .string y.s, .slice oi.a oi.len oi.cap, .slice ol.a ol.len ol.cap] rfl rfl r5 hy5.one (by omega) hb5 ?_
          intro v6 w6 ho6 hg6 hw6
          obtain ⟨s6, hs6⟩ : ∃ s : SV, v6 = .slice s.a s.len s.cap := by obtain ⟨a', c', e'⟩ := owns_slice ho6; exact ⟨⟨a', _, c'⟩, e'⟩
          subst hs6
          have hv6 := VRow.push hc2 hc3 hy5 ho6 hg6 hw6
          have hE6 : Ext W1 w6 := f5w.owned hg6 hc1 (Nat.le_refl _)
          rw [← unhide Hpk] at hv6
          have Hv6 := hide hv6
          clear ho6 hg6 hw6 hc1 hc2 hc3 hv6 hy5
          refine hK.out _ _ (hE6) ?_
          clear hK K
          refine wpAnyX_take (i := 12) (v := .slice s6.a s6.len s6.cap) rfl (by kernel_rfl) (by kernel_rfl) (fun _ _ _ h => h) (.inl ⟨rfl, fun w' hS => by simp [execOp, go_sem]⟩) (hE6) ?_
          simp only [Act.put, List.getElem_toArray, List.getElem_cons_zero, List.getElem_cons_succ, List.setIfInBounds_toArray, List.set_cons_succ, List.set_cons_zero]
          refine wpAnyX_end [] [] rfl (by intro j i hj; simp at hj) (by kernel_rfl) (by intro i hi; simp at hi) fun K hK => ?_
          go_wp2
          refine hK.out _ _ ?_
          clear hK K
          go_wp2
          exact ⟨⟨j + 1, s6, rfl, by go_num, by omega, unhide Hv6, hE6⟩, by simp [intOf]; omega⟩
        · have hdb : (d == g.id) = false := by simpa using hde
          have hpk := (unhide hPK).2.2.1 f j d x (unhide Hd) (unhide Hx) hde
          have Hpk := hide hpk
          clear hpk hde
          go_wp2
          exact ⟨⟨j + 1, vL, rfl, by go_num, by omega, by rw [unhide Hpk]; exact unhide Hvr, hE⟩, by simp [intOf]; omega⟩
      · have hje : j = v.ids.length := by omega
        subst hje
        rw [unhide Hend] at hvr
        have Hvr := hide hvr
        clear hvr
        go_wp2
        go_ret
        have hs := hxw1.size
        exact ⟨vL, rfl, ((unhide Hvr).lower hs).loose fun b hb _ => by omega, hEw⟩
end Go.Proofs.YtnppgeiompimaaaGreatDoor

