import Derived.Test.YtnppgeiompimaaaGreatDoorM41
namespace Go.Proofs.YtnppgeiompimaaaGreatDoor
set_option linter.unusedSimpArgs false
set_option linter.unusedVariables false
set_option linter.unusedSimpArgs false
set_option linter.unusedVariables false
open Go.RowKit Go.Sort Go.Shelf Go.Lib

theorem named_ok {ws rs : BookM} {name : ByteArray} (h : namedE ws rs name = 0) : goodM ws = 0 ∧ goodM rs = 0 ∧ Msg ws (namedA ws rs name) ∧ Msg rs (namedB ws rs name) ∧ findM ws name = some (namedA ws rs name) ∧ findM rs name = some (namedB ws rs name) := by
  have h' := h
  unfold namedE at h
  by_cases hg : goodM ws ≠ 0 ∨ goodM rs ≠ 0
  · rw [if_pos hg] at h; cases h
  · rw [if_neg hg] at h
    have g1 : goodM ws = 0 := Decidable.byContradiction fun e => hg (.inl e)
    have g2 : goodM rs = 0 := Decidable.byContradiction fun e => hg (.inr e)
    by_cases hk : (okT (findM ws name) && okT (findM rs name)) = true
    · rw [Bool.and_eq_true] at hk
      obtain ⟨k1, k2⟩ := hk
      have out : ∀ o : Option TypeM, okT o = true → o = some (o.getD TypeM.zero) ∧ (o.getD TypeM.zero).enum = false := fun o ho => by
        cases o with
        | none => simp [okT] at ho
        | some t => simpa [okT] using ho
      obtain ⟨a1, a2⟩ := out _ k1
      obtain ⟨b1, b2⟩ := out _ k2
      have eA : namedA ws rs name = (findM ws name).getD TypeM.zero := by unfold namedA; rw [if_pos h']
      have eB : namedB ws rs name = (findM rs name).getD TypeM.zero := by unfold namedB; rw [if_pos h']
      rw [eA, eB]
      exact ⟨g1, g2, ⟨name, a1, a2⟩, ⟨name, b1, b2⟩, a1, b1⟩
    · rw [if_neg hk] at h; cases h
theorem items_good {ts : BookM} (h : goodM ts = 0) (f : FieldM) : (typeM ts f).items.length ≤ 1000 := by
  unfold typeM
  cases hf : findM ts f.type with
  | none => simp [TypeM.zero]
  | some t =>
    have g := (goodM_out h).2 t (findM_mem hf)
    simp only [Option.getD_some]
    cases he : t.enum with
    | true => have := (g.enum he).2.2.2.1; omega
    | false => rw [(g.msg he).1]; simp
def firstP (ws rs : BookM) (name : ByteArray) : PairM := ⟨namedA ws rs name, namedB ws rs name, 0, 0⟩
def allFlaws (ws rs : BookM) (name : ByteArray) : List FlawM := (reachM ws rs (firstP ws rs name)).flatMap (pairFlaws ws rs)
/-- What Flaws answers, ahead of 'each once'. -/
def FlawsOk (ws rs : BookM) (name : ByteArray) (l : List FlawM) : Prop :=
  (namedE ws rs name ≠ 0 → l = []) ∧ (namedE ws rs name = 0 → l.Perm (allFlaws ws rs name) ∧ l.Pairwise (fun x y => ltOf cmpW y x = false))
def preW (ws rs : BookM) (lp : List PairM) (j : Nat) : List FlawM := (lp.take j).flatMap (pairFlaws ws rs)
theorem preW_succ {ws rs : BookM} {lp : List PairM} {j : Nat} {p : PairM} (h : lp[j]? = some p) : preW ws rs lp (j + 1) = preW ws rs lp j ++ pairFlaws ws rs p := by
  unfold preW; rw [List.take_add_one, h]; simp
theorem flat_len3 {α β : Type} {F : α → List β} (h : ∀ x, (F x).length ≤ 3) (l : List α) : (l.flatMap F).length ≤ 3 * l.length := by
  induction l with
  | nil => simp
  | cons x l ih => have := h x; rw [List.flatMap_cons, List.length_append, List.length_cons]; omega
theorem pairFlaws_len (ws rs : BookM) (p : PairM) : (pairFlaws ws rs p).length ≤ 3 * p.a.fields.length := by
  unfold pairFlaws
  refine flat_len3 (fun f => ?_) _
  cases fieldM p.b f.id with
  | none => simp
  | some g => simp only [List.length_map]; exact whys_len
theorem preW_len {ws rs : BookM} {lp : List PairM} (h : ∀ p ∈ lp, p.a.fields.length ≤ 5) : ∀ j, (preW ws rs lp j).length ≤ 15 * j
  | 0 => by simp [preW]
  | j + 1 => by
    have ih := preW_len (ws := ws) (rs := rs) h j
    cases hj : lp[j]? with
    | none => unfold preW at ih ⊢; rw [List.take_add_one, hj]; simp at ih ⊢; omega
    | some p =>
      rw [preW_succ hj, List.length_append]
      have := pairFlaws_len ws rs p
      have := h p (List.mem_of_getElem? hj)
      omega
set_option maxHeartbeats 12800000 in
set_option maxRecDepth 10000 in
theorem flawsAll_any (s1 s2 : SV) (ws rs : BookM) (name : ByteArray) (w : World) (h1 : BookAt w s1 ws) (h2 : BookAt w s2 rs) (hw : WordsAt w) (n1 : ws.Fits) (n2 : rs.Fits) :
    Calls Tryz.prog 8 #[.agg #[.slice s1.a s1.len s1.cap], .agg #[.slice s2.a s2.len s2.cap], .string name] w fun e w' => ∃ (sv : SV) (l : List FlawM), e = .returned (.tuple #[.slice sv.a sv.len sv.cap, .int .i64 (namedE ws rs name)]) ∧ FlawsOk ws rs name l ∧ w'.ownsRow w.heap.size 62 3 (.slice sv.a sv.len sv.cap) (compM l).length ((compM l).flatMap encW) ∧ Ext w w' := by
  obtain ⟨W, hW⟩ : ∃ W, W = ((w.alloc (.cells #[.slice s1.a s1.len s1.cap] 24)).alloc (.cells #[.slice s2.a s2.len s2.cap] 24)).alloc (.cells #[.slice s1.a s1.len s1.cap, .slice s2.a s2.len s2.cap] 52) := ⟨_, rfl⟩
  obtain ⟨hxW, hzW, r0, r1, r2⟩ := heaps3c hW
  have HN := fun w' (hx : Ext w w') => pairNamed_any s1 s2 ws rs name w' (h1.ext hx) (h2.ext hx) (hw.ext hx) n1 n2
  have HOK := fun h => named_ok (ws := ws) (rs := rs) (name := name) h
  have HR := fun (pv : PV) w' (hx : Ext w w') (he : namedE ws rs name = 0) => reached_any s1 s2 ws rs pv (firstP ws rs name) w' (h1.ext hx) (h2.ext hx) (good_small (HOK he).1) (good_small (HOK he).2.1) (HOK he).1 (HOK he).2.1 (HOK he).2.2.1 (HOK he).2.2.2.1
  have HF := fun (he : namedE ws rs name = 0) (p : PairM) (tv uv : TV) w' (hx : Ext w w') => flaws_any s1 s2 ws rs p tv uv w' (h1.ext hx) (h2.ext hx) (good_small (HOK he).1) (good_small (HOK he).2.1) (items_good (HOK he).1) (items_good (HOK he).2.1)
  have HM : namedE ws rs name = 0 → ∀ p ∈ reachM ws rs (firstP ws rs name), p.a.fields.length ≤ 5 ∧ p.b.fields.length ≤ 5 := fun he p hp => by
    obtain ⟨q1, _⟩ := reach_out (s := 0) (d := 0) (HOK he).1 (HOK he).2.1 (HOK he).2.2.1 (HOK he).2.2.2.1
    obtain ⟨a, b⟩ := q1.msg p hp
    exact ⟨a.len (HOK he).1, b.len (HOK he).2.1⟩
  have HL : namedE ws rs name = 0 → (reachM ws rs (firstP ws rs name)).length ≤ 16 := fun he => by
    obtain ⟨q1, _⟩ := reach_out (s := 0) (d := 0) (HOK he).1 (HOK he).2.1 (HOK he).2.2.1 (HOK he).2.2.2.1
    exact q1.len (HOK he).1 (HOK he).2.1
  have HQ : Hid (∀ l, FlawsOk ws rs name l ↔ (namedE ws rs name ≠ 0 → l = []) ∧ (namedE ws rs name = 0 → l.Perm (preW ws rs (reachM ws rs (firstP ws rs name)) (reachM ws rs (firstP ws rs name)).length) ∧ l.Pairwise (fun x y => ltOf cmpW y x = false))) := fun l => by
    unfold FlawsOk allFlaws preW
    rw [List.take_length]
  have HG : ∀ ws' rs' : BookM, goodM ws' = 0 → goodM rs' = 0 → (∀ t, Msg ws' t → t.fields.length ≤ 1000) ∧ ∀ t, Msg rs' t → t.fields.length ≤ 1000 := fun ws' rs' a b => ⟨fun t ht => by have := ht.len a; omega, fun t ht => by have := ht.len b; omega⟩
  have HG := hide (fun he => HG ws rs (HOK he).1 (HOK he).2.1)
  have HFA : firstP ws rs name = ⟨namedA ws rs name, namedB ws rs name, 0, 0⟩ := rfl
  generalize FlawsOk ws rs name = FO at *
  have HR := hide HR
  have HF := hide HF
  have HN := hide HN
  have HM := hide HM
  have HL := hide HL
  have HFA := hide HFA
  have HW := hide hW
  clear hW HOK h1 h2 hw n1 n2
  obtain ⟨b0, _⟩ := row1 r0
  obtain ⟨b1, _⟩ := row1 r1
  obtain ⟨b2, b3, _⟩ := rowN2 r2
  go_enter Tryz.func8, Tryz.ntmps8
  go_wp2_with fail
  rw [← unhide HW]
  refine (unhide HN W hxW).mono ?_
  rintro e w1 ⟨tv, uv, rfl, ht, hu, x1⟩
  have f1 := hxW.trans x1
  generalize hnE : namedE ws rs name = nE at *
  by_cases he : nE = 0
  · subst he
    have hQ := fun l => (unhide HQ l)
    obtain ⟨B', hB'⟩ : ∃ B', B' = w1.alloc (.cells #[.string tv.name, .bool tv.enum, .slice tv.fields.a tv.fields.len tv.fields.cap, .slice tv.gone.a tv.gone.len tv.gone.cap, .slice tv.items.a tv.items.len tv.items.cap, .string uv.name, .bool uv.enum, .slice uv.fields.a uv.fields.len uv.fields.cap, .slice uv.gone.a uv.gone.len uv.gone.cap, .slice uv.items.a uv.items.len uv.items.cap, .int .i64 0, .int .i64 0] 54) := ⟨_, rfl⟩
    have x2 : Ext w1 B' := by rw [hB']; exact (Ext.refl w1).alloc _
    have r3 : B'.heap[w1.heap.size]? = some (.cells #[.string tv.name, .bool tv.enum, .slice tv.fields.a tv.fields.len tv.fields.cap, .slice tv.gone.a tv.gone.len tv.gone.cap, .slice tv.items.a tv.items.len tv.items.cap, .string uv.name, .bool uv.enum, .slice uv.fields.a uv.fields.len uv.fields.cap, .slice uv.gone.a uv.gone.len uv.gone.cap, .slice uv.items.a uv.items.len uv.items.cap, .int .i64 0, .int .i64 0] 54 (0, 0)) := by rw [hB']; exact heap_alloc_new w1 _
    have f2 := f1.trans x2
    have hHR := unhide HR ⟨tv, uv, 0, 0⟩ B' f2 rfl (ht.ext x2) (hu.ext x2) rfl rfl ((unhide HG) rfl).1 ((unhide HG) rfl).2
    simp only [encP] at hHR
    have HHR := hide hHR
    have hM := unhide HM rfl
    have hL := unhide HL rfl
    generalize reachM ws rs (firstP ws rs name) = lp at *
    have HB' := hide hB'
    have z2 := lt_of_heap (x1.heap r2)
    obtain ⟨b2, b3, _⟩ := rowN2 (x1.heap r2)
    have zB := lt_of_heap r3
    clear hHR hB' HR HN ht hu
    go_wp2_with fail
    rw [← unhide HB']
    refine (unhide HHR).mono ?_
    rintro e w3 ⟨sv, lv, B, T, ob, rfl, hop, hpo, x3⟩
    have f3 := f2.trans x3
    have hll := hpo.1
    have hsv : sv.len = lv.length := by
      rcases hop.2 with ⟨e, h0⟩ | ⟨g, cap, cur, e, _⟩
      · simp only [Value.slice.injEq] at e; omega
      · simp only [Value.slice.injEq] at e; exact e.2.1
    obtain ⟨sva, svl, svc⟩ := sv
    simp only at hsv
    subst hsv
    have r23 := (x1.trans (x2.trans x3)).heap r2
    have hl1 : ∀ j, (preW ws rs lp j).length ≤ 15 * j := preW_len fun p hp => (hM p hp).1
    have Hl1 := hide hl1
    have Hop := hide hop
    have Hpo := hide hpo
    have HqF : Hid (∀ l, FO l ↔ ((0 : Int) ≠ 0 → l = []) ∧ (True → l.Perm (preW ws rs lp lp.length) ∧ l.Pairwise (fun x y => ltOf cmpW y x = false))) := hQ
    have HM' := hide hM
    have f3' := hide f3
    clear hl1 hop hpo hQ HQ hM HM HL HHR HG HFA b2 b3 f1 f2 f3
    go_wp2
    go_loopw [11, 30] (fun sl u wr => ∃ (j : Nat) (sq : SV), sl = .slice sq.a sq.len sq.cap ∧ u = .int .i64 j ∧ j ≤ lv.length ∧ wr.ownsRow w3.heap.size 62 3 (.slice sq.a sq.len sq.cap) (preW ws rs lp j).length ((preW ws rs lp j).flatMap encW) ∧ Ext w3 wr) (fun _ u _ => lv.length - (intOf u).toNat)
    case atStart => exact ⟨0, ⟨none, 0, 0⟩, rfl, rfl, by omega, owns_nilC _ _ _ _, Ext.refl _⟩
    case round =>
      obtain ⟨j, sq, rfl, rfl, hj, ho, hE⟩ := hrel
      by_cases hlt : j < lv.length
      · obtain ⟨x, hx⟩ : ∃ x, lv[j]? = some x := ⟨lv[j], by simp [hlt]⟩
        obtain ⟨p, hp⟩ : ∃ p, lp[j]? = some p := ⟨lp[j]'(by omega), List.getElem?_eq_getElem (by omega)⟩
        have hOk := (unhide Hpo).2 j x p hx hp
        obtain ⟨m1, m2⟩ := unhide HM' p (List.mem_of_getElem? hp)
        obtain ⟨g, rfl⟩ : ∃ g, sva = some ⟨g, 0, none⟩ := by
          rcases (unhide Hop).2 with ⟨_, e⟩ | ⟨g, cap, cur, e, _⟩
          · omega
          · simp only [Value.slice.injEq] at e; exact ⟨g, e.1⟩
        obtain ⟨e0, e1, e2, e3, e4, e5, e6, e7, e8, e9, e10, e11⟩ := range12 (hE.range (pair_range (unhide Hop) hx))
        have hsrc := hOk.src
        have hidp := hOk.id
        have hxB : Ext wr (wr.alloc (.cells (encP x).toArray 54)) := (Ext.refl wr).alloc _
        have hFl := unhide HF (by trivial) p x.a x.b (wr.alloc (.cells (encP x).toArray 54)) (((unhide f3').trans hE).trans hxB) (hOk.a.ext (hE.trans hxB)) (hOk.b.ext (hE.trans hxB)) (by omega) (by omega)
        have hps := preW_succ (ws := ws) (rs := rs) hp
        have hpl := unhide Hl1 j
        have hpq := pairFlaws_len ws rs p
        generalize pairFlaws ws rs p = PFl at *
        obtain ⟨⟨xn, xe, xf, xg, xi⟩, ⟨yn, ye, yf, yg, yi⟩, xs, xid⟩ := x
        simp only at hsrc hidp
        subst hsrc hidp
        simp only [encP] at hFl e0 e1 e2 e3 e4 e5 e6 e7 e8 e9 e10 e11
        have HFl := hide hFl
        have Ho := hide ho
        have Hps := hide hps
        obtain ⟨b2, b3, _⟩ := rowN2 (hE.heap r23)
        have zb := lt_of_heap (hE.heap r23)
        have Hx := hide hx
        clear hFl ho hps hOk hxB hx hp
        go_wp2_with fail
        refine (unhide HFl).mono ?_
        rintro e w5 ⟨sm, rfl, hom, x5⟩
        have x5' : Ext wr w5 := ((Ext.refl wr).alloc _).trans x5
        have hE5 := hE.trans x5'
        have ho5 := owns_ext (unhide Ho) x5'
        have hat := slice_of_ownsC (s := sm) encW (fun _ => rfl) hom rfl
        obtain ⟨sma, smn, smc⟩ := sm
        have hmn : smn = PFl.length := hat.1
        subst hmn
        have hok := ok_of_owns (s := ⟨sma, PFl.length, smc⟩) hom
        have Ho5 := hide ho5
        have Hat := hide hat
        have Hok := hide hok
        clear hom ho5 hat hok HFl Ho e0 e1 e2 e3 e4 e5 e6 e7 e8 e9 e10 e11
        go_wp2_with (at_builtin; refine wpList_appAll _ _ 26 62 (.agg #[.string ⟨#[]⟩, .int .i64 0, .int .i64 0]) 3 32 rfl rfl Tryz.underlying26 info62 rfl (by decide) (by decide) encW (fun _ => rfl) oneCell_encW w3.heap.size (.slice sq.a sq.len sq.cap) (preW ws rs lp j) (unhide Ho5) (by have := hE5.size; omega) rfl ⟨sma, PFl.length, smc⟩ PFl (unhide Hat) (unhide Hok) rfl (by omega) ?_)
        intro v' w6 ho6 hg6
        have hE6 : Ext w3 w6 := hE5.owned hg6 (unhide Ho5) (Nat.le_refl _)
        have Ho6 := hide ho6
        clear ho6 hg6
        go_wp2
        exact ⟨⟨j + 1, v', rfl, by go_num, by omega, by rw [unhide Hps, List.length_append, List.flatMap_append]; exact unhide Ho6, hE6⟩, by simp [intOf]; omega⟩
      · have hje : j = lv.length := by omega
        rw [hje, hll] at ho
        have hl2 := unhide Hl1 lp.length
        have hlp : lp.length ≤ 16 := hL
        have hso := sortW_any ho (by omega)
        have Ho0 := hide ho
        generalize preW ws rs lp lp.length = PA at *
        have Hso := hide hso
        clear ho hso
        go_wp2_with fail
        refine (unhide Hso).mono ?_
        rintro e w6 ⟨rfl, l', hpm, hpw, ho6, hg6⟩
        have hle := hpm.length_eq
        have hco := compact_any w3.heap.size sq l' w6 ho6 (by omega)
        have hFO := (unhide HqF l').2 ⟨fun h => absurd rfl h, fun _ => ⟨hpm, hpw⟩⟩
        have HFO := hide hFO
        have Hco := hide hco
        have Hg6 := hide hg6
        have Ho6 := hide ho6
        clear hco hFO ho6 hpm hpw hle hg6
        go_wp2_with fail
        refine (unhide Hco).mono ?_
        rintro e w7 ⟨s7, rfl, ho7, hg7⟩
        have hg6 := unhide Hg6
        rw [blk_own] at hg6 hg7
        have hE6 : Ext w3 w6 := hE.owned hg6 (unhide Ho0) (Nat.le_refl _)
        have hE7 : Ext w3 w7 := hE6.owned hg7 (unhide Ho6) (Nat.le_refl _)
        have Ho7 := hide ho7
        have HE7 := hide hE7
        clear ho7 hg6 hg7 hE6 hE7
        go_wp2
        have hs3 := (unhide f3').size
        exact bodyPost_ret (v := .tuple #[.slice s7.a s7.len s7.cap, .int .i64 0]) (by simp [results, Tryz.results8, go_sem]) rfl ⟨s7, l', by rw [hnE], unhide HFO, owns_base (unhide Ho7) hs3, (unhide f3').trans (unhide HE7)⟩
  · have hnb : (nE == 0) = false := by simpa using he
    have hF0 := ((unhide HQ) []).2 ⟨fun _ => rfl, fun h => absurd h he⟩
    have HF0 := hide hF0
    have f1' := hide f1
    have z2 := lt_of_heap (x1.heap r2)
    clear hF0 HQ HR HF HN HM HL HFA HG f1 ht hu
    go_wp2
    exact bodyPost_ret (v := .tuple #[.slice none 0 0, .int .i64 nE]) (by simp [results, Tryz.results8, go_sem]) rfl ⟨⟨none, 0, 0⟩, [], by rw [hnE], unhide HF0, owns_nilC _ _ _ _, (unhide f1').alloc _⟩
end Go.Proofs.YtnppgeiompimaaaGreatDoor

