import Derived.Test.YtblkgaoafejefaaDoorA12
import Derived.Test.YtblkgaoafejefaaDoorA13
namespace Go.Proofs.YtblkgaoafejefaaDoor
set_option linter.unusedSimpArgs false
set_option linter.unusedVariables false
open Go.RowKit

def sameBookB (x y : BookM) : Bool := Lib.allEq sameTypeB x y
def sameTo (x y : BookM) (k : Nat) : Prop := ∀ j, j < k → sameTypeB (x.getD j TypeM.zero) (y.getD j TypeM.zero) = true
theorem allEq_at {α : Type} (d : α) (eq : α → α → Bool) : ∀ (x y : List α), x.length = y.length → (∀ j, j < x.length → eq (x.getD j d) (y.getD j d) = true) → Lib.allEq eq x y = true
  | [], [], _, _ => rfl
  | [], _ :: _, h, _ => by simp at h
  | _ :: _, [], h, _ => by simp at h
  | x :: xs, y :: ys, h, ha => by
    have h0 : eq x y = true := ha 0 (Nat.succ_pos _)
    simp only [Lib.allEq, h0, Bool.true_and]
    exact allEq_at d eq xs ys (by simpa using h) (fun j hj => ha (j + 1) (by simpa using hj))
theorem allEq_no {α : Type} (d : α) (eq : α → α → Bool) : ∀ (x y : List α) (k : Nat), k < x.length → k < y.length → eq (x.getD k d) (y.getD k d) = false → Lib.allEq eq x y = false
  | [], _, _, h, _, _ => absurd h (Nat.not_lt_zero _)
  | _ :: _, [], _, _, h, _ => absurd h (Nat.not_lt_zero _)
  | x :: xs, y :: ys, 0, _, _, h => by have h0 : eq x y = false := h; simp [Lib.allEq, h0]
  | x :: xs, y :: ys, k + 1, h1, h2, h => by
    simp only [Lib.allEq]
    rw [allEq_no d eq xs ys k (by simpa using h1) (by simpa using h2) h]; simp
set_option maxHeartbeats 3200000 in
theorem equalFunc_any (s s' : SV) (x y : BookM) (w : World) (h : BookAt w s x) (h' : BookAt w s' y) (n : x.Fits) (n' : y.Fits) :
    Calls Tryd.prog 30 #[.slice s.a s.len s.cap, .slice s'.a s'.len s'.cap, .func (.func 31) #[] #[]] w fun e w' => e = .returned (.bool (sameBookB x y)) ∧ Ext w w' := by
  obtain ⟨a, ln, c⟩ := s
  obtain ⟨a', ln', c'⟩ := s'
  have hl := h.1
  have hl' := h'.1
  simp only at hl hl'
  subst hl hl'
  have m1 := n.1
  have m2 := n'.1
  by_cases hne : x.length = y.length
  · have Hx := hide h
    have Hy := hide h'
    have Hn := hide n.2
    have Hn' := hide n'.2
    obtain ⟨R, hR⟩ : ∃ R, R = sameBookB x y := ⟨_, rfl⟩
    have HR := hide hR
    rw [← hR]
    have Hne := hide hne
    clear h h' n n' hR
    have hni : (x.length : Int) = (y.length : Int) := by omega
    have hnd : decide (x.length = y.length) = true := by simpa using hne
    go_enter Tryd.func30, Tryd.ntmps30
    rw [← hne]
    rw [← hne] at m2
    clear hni hnd hne
    go_wp2
    go_loopw [17] (fun i wr => ∃ k : Nat, k ≤ x.length ∧ i = .int .i64 k ∧ sameTo x y k ∧ Ext w wr) (fun i _ => x.length - (intOf i).toNat)
    case atStart => exact ⟨0, by omega, rfl, fun j hj => absurd hj (Nat.not_lt_zero _), Ext.refl w⟩
    case round =>
      obtain ⟨k, hk, rfl, hA, hx⟩ := hrel
      by_cases hlt : k < x.length
      · have hlt2 : k < y.length := by have := unhide Hne; omega
        obtain ⟨b, o, cs, e1, hr, tv, rfl, ht⟩ := (unhide Hx).2 k x[k] (by simp [hlt])
        obtain ⟨b', o', cs', e2, hr', tv', rfl, ht'⟩ := (unhide Hy).2 k y[k] (by simp [hlt2])
        simp only at e1 e2
        subst e1 e2
        obtain ⟨f0, f1, f2, f3, f4⟩ := range5 (hx.range hr)
        obtain ⟨g0, g1, g2, g3, g4⟩ := range5 (hx.range hr')
        have zb := World.block_lt_of_cell? _ _ f0
        have zb' := World.block_lt_of_cell? _ _ g0
        simp only at zb zb'
        have Hb : Hid (sameTypeB (x.getD k TypeM.zero) (y.getD k TypeM.zero) = sameTypeB x[k] y[k]) := by unfold Hid; simp [List.getD, hlt, hlt2]
        have hS := fun w' (hx : Ext w w') => sameTypeG_any tv tv' x[k] y[k] w' (ht.ext hx) (ht'.ext hx) ((unhide Hn) _ (List.getElem_mem hlt)) ((unhide Hn') _ (List.getElem_mem hlt2))
        generalize sameTypeB x[k] y[k] = r at *
        have HS := hide hS
        obtain ⟨nm, en, fs, gs, is⟩ := tv
        obtain ⟨nm', en', fs', gs', is'⟩ := tv'
        clear hr hr' ht ht' hS
        have hx2 : Ext w ((wr.alloc (.cells #[.string nm, .bool en, .slice fs.a fs.len fs.cap, .slice gs.a gs.len gs.cap, .slice is.a is.len is.cap] 46)).alloc (.cells #[.string nm', .bool en', .slice fs'.a fs'.len fs'.cap, .slice gs'.a gs'.len gs'.cap, .slice is'.a is'.len is'.cap] 46)) := (hx.alloc _).alloc _
        go_wp2_with fail
        refine (unhide HS _ hx2).mono ?_
        rintro e w3 ⟨rfl, x3⟩
        cases r with
        | true =>
          go_wp2
          exact ⟨⟨k + 1, by omega, by go_num, fun j hj => by
            by_cases e : j = k
            · subst e; exact (unhide Hb)
            · exact hA j (by omega), hx2.trans x3⟩, by simp [intOf]; omega⟩
        | false =>
          go_wp2
          go_ret
          exact ⟨ret_bool (by rw [unhide HR]; exact (allEq_no TypeM.zero sameTypeB x y k hlt hlt2 (unhide Hb)).symm), hx2.trans x3⟩
      · go_wp2
        go_ret
        exact ⟨ret_bool (by rw [unhide HR]; exact (allEq_at TypeM.zero sameTypeB x y (unhide Hne) fun j hj => hA j (by omega)).symm), hx⟩
  · unfold sameBookB
    rw [Lib.allEq_len _ _ _ hne]
    clear h h'
    have hne' : ¬ (x.length : Int) = (y.length : Int) := by omega
    go_enter Tryd.func30, Tryd.ntmps30
    go_wp2
    go_ret
    exact ⟨rfl, Ext.refl w⟩
set_option maxHeartbeats 1600000 in
theorem same_any (s s' : SV) (x y : BookM) (w : World) (h : BookAt w s x) (h' : BookAt w s' y) (n : x.Fits) (n' : y.Fits) :
    Calls Tryd.prog 15 #[.agg #[.slice s.a s.len s.cap], .agg #[.slice s'.a s'.len s'.cap]] w fun e w' => e = .returned (.bool (sameBookB x y)) ∧ Ext w w' := by
  have hx0 : Ext w ((w.alloc (.cells #[.slice s.a s.len s.cap] 24)).alloc (.cells #[.slice s'.a s'.len s'.cap] 24)) := ((Ext.refl w).alloc _).alloc _
  have hE := equalFunc_any s s' x y _ (h.ext hx0) (h'.ext hx0) n n'
  generalize sameBookB x y = r at *
  have HE := hide hE
  clear h h' n n' hE
  go_enter Tryd.func15, Tryd.ntmps15
  go_wp2_with fail
  refine (unhide HE).mono ?_
  rintro e w1 ⟨rfl, x1⟩
  go_wp2
  go_ret
  exact ⟨rfl, hx0.trans x1⟩
set_option maxHeartbeats 3200000 in
theorem has_any (s : SV) (ts : BookM) (nm : ByteArray) (id : Int) (w : World) (h : BookAt w s ts) (n : ts.Small) :
    Calls Tryd.prog 10 #[.agg #[.slice s.a s.len s.cap], .string nm, .int .i64 id] w fun e w' => e = .returned (.tuple #[.agg #[.int .i64 (thF (fieldM (findZ ts nm) id)).2.id, .string (thF (fieldM (findZ ts nm) id)).2.name, .string (thF (fieldM (findZ ts nm) id)).2.type, .int .i64 (thF (fieldM (findZ ts nm) id)).2.kind, .int .i64 (thF (fieldM (findZ ts nm) id)).2.rule], .bool (thF (fieldM (findZ ts nm) id)).1]) ∧ Ext w w' := by
  obtain ⟨W, hW⟩ : ∃ W, W = (w.alloc (.cells #[.slice s.a s.len s.cap] 24)).alloc (.cells #[.int .i64 0, .string ⟨#[]⟩, .string ⟨#[]⟩, .int .i64 0, .int .i64 0] 36) := ⟨_, rfl⟩
  have hxW : Ext w W := by rw [hW]; exact ((Ext.refl w).alloc _).alloc _
  have r0 : W.heap[w.heap.size]? = some (.cells #[.slice s.a s.len s.cap] 24 (0, 0)) := by rw [hW]; exact heap_alloc2_old _ _ _
  have r1 : W.heap[w.heap.size + 1]? = some (.cells #[.int .i64 0, .string ⟨#[]⟩, .string ⟨#[]⟩, .int .i64 0, .int .i64 0] 36 (0, 0)) := by rw [hW]; exact heap_alloc2_new _ _ _
  have hF := find_any s ts nm W (h.ext hxW) n
  have hsm := (find_small' n nm).fields
  have HW := hide hW
  have HF := hide hF
  obtain ⟨t, ht⟩ : ∃ t, t = findZ ts nm := ⟨_, rfl⟩
  have ht2 : (findM ts nm).getD TypeM.zero = t := ht.symm
  rw [ht2] at HF
  rw [← ht] at hsm ⊢
  have hfo := fun (tv : TV) (w' : World) (h : TypeAt w' tv t) => fieldOf_any tv t id w' h (by omega)
  unfold thF
  generalize fieldM t id = o at *
  have HFO := hide hfo
  clear ht ht2 hW hF h n hfo
  obtain ⟨c0, _⟩ := row1 r0
  go_enter Tryd.func10, Tryd.ntmps10
  go_wp2_with fail
  rw [← unhide HW]
  refine (unhide HF).mono ?_
  rintro e w1 ⟨tv, rfl, htv, x1⟩
  have h1 := hxW.trans x1
  have r1 := x1.heap r1
  have hz := lt_of_heap r1
  have Htv := hide htv
  obtain ⟨nm', en', fs', gs', is'⟩ := tv
  have x2 : Ext w1 (w1.alloc (.cells #[.string nm', .bool en', .slice fs'.a fs'.len fs'.cap, .slice gs'.a gs'.len gs'.cap, .slice is'.a is'.len is'.cap] 46)) := (Ext.refl w1).alloc _
  clear htv
  go_wp2_with fail
  refine (unhide HFO ⟨nm', en', fs', gs', is'⟩ _ ((unhide Htv).ext x2)).mono ?_
  rintro e w2 ⟨rfl, x3⟩
  have x13 := x2.trans x3
  have r2 := x13.heap r1
  have hz2 := lt_of_heap r2
  have h2 := h1.trans x13
  obtain ⟨W6, hW6, r6, hx6⟩ := set5 r2 (.int .i64 (o.getD FieldM.zero).id) (.string (o.getD FieldM.zero).name) (.string (o.getD FieldM.zero).type) (.int .i64 (o.getD FieldM.zero).kind) (.int .i64 (o.getD FieldM.zero).rule)
  have f6 := hx6 w h2 (Nat.le_succ _)
  obtain ⟨a0, a1, a2, a3, a4, af⟩ := row5 r2
  have HW6 := hide hW6
  clear hW6 hx6 HFO HF
  obtain ⟨k0, k1, k2, k3, k4, _⟩ := row5 r6
  go_wp2
  rw [← unhide HW6]
  exact bodyPost_ret (v := .tuple #[.agg #[.int .i64 (o.getD FieldM.zero).id, .string (o.getD FieldM.zero).name, .string (o.getD FieldM.zero).type, .int .i64 (o.getD FieldM.zero).kind, .int .i64 (o.getD FieldM.zero).rule], .bool o.isSome]) (by clear af a0 a1 a2 a3 a4; simp [results, Tryd.results10, go_sem, k0, k1, k2, k3, k4]) rfl ⟨rfl, f6⟩
end Go.Proofs.YtblkgaoafejefaaDoor
