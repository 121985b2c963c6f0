import Derived.Test.YtgobejbboeeieaaB3
namespace Go.Proofs.Ytgobejbboeeieaa
set_option linter.unusedSimpArgs false
set_option linter.unusedVariables false
open Go.RowKit

/-- append(nil, s...): a new slice of the same elements. -/
theorem wpList_appNil {α : Type} {P : Program} {w : World} {ops : Array Oper} {rest : List Oper} {o : Oper} {a : Act} {Q : Exit → Act → World → Prop} (d x : Operand) (t e : TypeId) (z : Value) (k bytes : Nat)
    (hgd : o.guard = none) (ho : o.op = .call { callee := .builtin .append, args := #[d, x], argTypes := #[t, t] })
    (ht : P.underlying t = some (.slice e)) (hinfo : (P.info? e).map (fun i => (i.zero, i.size, i.bytes)) = some (some z, k, bytes)) (hzs : z.cells.size = k) (hsz : 0 < k)
    (enc : α → List Value) (hk : ∀ x, (enc x).length = k) (h1 : ∀ x, ∀ u ∈ enc x, u.oneCell' = true) (hd : a.eval d = .slice none 0 0)
    (s : SV) (l : List α) (hs : SliceAt k (fun _ cs x => cs = enc x) w s l) (h0 : s.ok) (hx : a.eval x = .slice s.a s.len s.cap) (hl : l.length ≤ maxLen) (hlb : l.length * bytes ≤ 140737488355328)
    (h : ∀ (v' : SV) (w' : World), SliceAt k (fun _ cs x => cs = enc x) w' v' l → Ext w w' → wpList P ops Q rest (a.put o.dst (.slice v'.a v'.len v'.cap)) w') : wpList P ops Q (o :: rest) a w := by
  obtain ⟨i, hi, hz0, hz1, hz2⟩ := info_parts hinfo
  have hown := World.ownsRow_nil w w.heap.size e k
  refine wpList_plain hgd fun K hK => ?_
  obtain ⟨sa, sl, sc⟩ := s
  have hn := hs.1
  simp only at hn
  subst hn
  cases sa with
  | none =>
    obtain ⟨e0, e1⟩ := h0.nil rfl
    simp only at e0 e1
    have : l = [] := List.length_eq_zero_iff.1 e0
    subst this
    subst e1
    have hr := run_append_owned_none (P := P) w w.heap.size t o.type e i k ht hi (.slice none 0 0) 0 [] hown
    unfold Oper.wp execOp
    simp only [List.length_nil] at hx
    simp only [ho, resolve, invoke, builtin, Sem.run_bind, Sem.run_pure, Result.andThen_ok, List.map_toArray, List.map_cons, List.map_nil, hd, hx, hr]
    exact hK _ _ (h ⟨none, 0, 0⟩ w ⟨rfl, fun i x hx => by simp at hx⟩ (Ext.refl w))
  | some ad =>
    obtain ⟨v', w', hr, ho', hg, _⟩ := run_append_own (P := P) w w.heap.size t o.type e i z k bytes ht hi hz0 hz1 hz2 hzs hsz (.slice none 0 0) 0 [] hown ad l.length sc (l.flatMap enc) (flatMap_len hk l) (hs.row hk rfl)
      (fun u hu => let ⟨x, _, hx⟩ := List.mem_flatMap.1 hu; h1 x u hx) (by omega) (by rw [Nat.zero_add]; exact hlb) (Nat.le_refl _)
    rw [Nat.zero_add, List.nil_append] at ho'
    obtain ⟨s', rfl, hsl⟩ := sliceAt_of_owns enc hk ho' rfl
    unfold Oper.wp execOp
    simp only at hx
    simp only [ho, resolve, invoke, builtin, Sem.run_bind, Sem.run_pure, Result.andThen_ok, List.map_toArray, List.map_cons, List.map_nil, hd, hx, hr]
    exact hK _ _ (h s' w' hsl ((Ext.refl w).owned hg hown (Nat.le_refl _)))

set_option maxHeartbeats 3200000 in
set_option maxRecDepth 10000 in
theorem wireEncodes_walk (s : SV) (ps : List PartM) (w : World) (hs : PartsAt w s ps) (hok : s.ok) (hn : ps.length ≤ 9223372036854775807) (hnb : ps.length * 40 ≤ 140737488355328) (hst : ∀ p ∈ ps, p.s.size ≤ 9223372036854775807) :
    Calls Try.prog 3 #[.slice s.a s.len s.cap] w fun e w' => e = .returned (.bool true) ∧ Ext w w' := by
  obtain ⟨a, n, cap⟩ := s
  have hl := hs.1
  simp only at hl
  subst hl
  have Hs := hide hs
  have Hst := hide hst
  clear hs hst
  show Calls Try.prog 3 #[.slice a ps.length cap] w _
  go_enter Try.func3, Try.ntmps3
  go_wp2_with (at_builtin; refine wpList_appNil _ _ 22 27 (.agg #[.int .i64 0, .int .i64 0, .int .i64 0, .string ⟨#[]⟩]) 4 40 rfl rfl Try.underlying22 info27 rfl (by decide) PartM.cells (fun _ => rfl) one_part rfl ⟨a, ps.length, cap⟩ ps (unhide Hs) hok rfl ?c1 hnb ?_)
  case c1 => unfold maxLen; exact hn
  intro sv w1 hs1 hx1
  go_wp2_with fail
  refine (encode_any sv ps w1 hs1 hn (unhide Hst)).mono ?_
  rintro e w2 ⟨rfl, hx2⟩
  have hx02 := hx1.trans hx2
  go_wp2_with fail
  refine (encodeParts_any ⟨a, ps.length, cap⟩ ps w2 ((unhide Hs).ext hx02) hn (unhide Hst)).mono ?_
  rintro e w3 ⟨rfl, hx3⟩
  have hx03 := hx02.trans hx3
  obtain ⟨es, hes⟩ : ∃ es, encS ps = es := ⟨_, rfl⟩
  obtain ⟨er, her⟩ : ∃ er, encE ps = er := ⟨_, rfl⟩
  rw [hes, her]
  clear hes her
  have F1 := hide ((unhide Hs).ext hx03).2
  clear Hs
  go_wp2
  go_loopw [22] (fun i wr => ∃ k : Nat, k ≤ ps.length ∧ i = .int .i64 k ∧ Ext w3 wr) (fun i _ => ps.length - (intOf i).toNat)
  case atStart => exact ⟨0, by omega, rfl, Ext.refl _⟩
  case round =>
    obtain ⟨k, hk, rfl, hx⟩ := hrel
    by_cases hlt : k < ps.length
    · obtain ⟨b, o, cs, ha, hr, rfl⟩ := (unhide F1) k ps[k] (by simp [hlt])
      subst ha
      have hsk := (unhide Hst) ps[k] (List.getElem_mem hlt)
      obtain ⟨f0, f1, f2, f3⟩ := range4 (hx.range hr)
      generalize ps[k] = p at *
      clear F1 Hst hr
      have hA0 := heap_alloc_new wr (.cells #[.int .i64 p.id, .int .i64 p.kind, .int .i64 p.n, .string p.s] 27)
      have hxB : Ext wr (wr.alloc (.cells #[.int .i64 p.id, .int .i64 p.kind, .int .i64 p.n, .string p.s] 27)) := (Ext.refl _).alloc _
      go_wp2_with fail
      refine wp_region_X (fun w' => w'.heap[wr.heap.size]? = some (.cells #[.int .i64 p.id, .int .i64 p.kind, .int .i64 p.n, .string p.s] 27 (0, 0))) (fun _ => false) (by kernel_rfl) ?_
      refine wpAnyX_take (i := 0) (v := .agg #[.int .i64 p.id, .int .i64 p.kind, .int .i64 p.n, .string p.s]) rfl (by kernel_rfl) (by kernel_rfl) (fun _ _ _ h => h) (.inl ⟨rfl, fun w' hS => by obtain ⟨q0, q1, q2, q3, _⟩ := row4 hS; simp [execOp, go_sem, q0, q1, q2, q3]⟩) hA0 ?_
      simp only [Act.put, List.setIfInBounds_toArray, List.set_cons_succ, List.set_cons_zero]
      refine wpAnyX_take (i := 2) (v := .agg #[.int .i64 p.id, .int .i64 p.kind, .int .i64 p.n, .string p.s]) rfl (by kernel_rfl) (by kernel_rfl) (fun _ _ _ h => h) (.inl ⟨rfl, fun w' hS => by obtain ⟨q0, q1, q2, q3, _⟩ := row4 hS; simp [execOp, go_sem, q0, q1, q2, q3]⟩) hA0 ?_
      simp only [Act.put, List.setIfInBounds_toArray, List.set_cons_succ, List.set_cons_zero]
      obtain ⟨gb, hg⟩ : ∃ gb, goodB p = gb := ⟨_, rfl⟩
      have Hg1 := fun w => hide (good_any p w hsk)
      have Hg2 := fun w => hide (isPart_any p w hsk)
      rw [hg] at Hg1 Hg2
      clear hg
      refine wpAnyX_one (j := 1) rfl (by kernel_rfl) rfl fun K hK => ?_
      go_wp2_with fail
      refine (unhide (Hg1 _)).mono ?_
      rintro e w5 ⟨rfl, hx5⟩
      have hx05 := hxB.trans (((Ext.refl _).drew).trans hx5)
      have hA5 := (((Ext.refl _).drew).trans hx5).heap hA0
      go_wp2
      refine hK.out _ _ hA5 ?_
      clear hK K
      refine wpAnyX_one (j := 3) rfl (by kernel_rfl) rfl fun K hK => ?_
      go_wp2_with fail
      refine (unhide (Hg2 _)).mono ?_
      rintro e w6 ⟨rfl, hx6⟩
      have hA6 := hx6.heap hA5
      go_wp2
      refine hK.out _ _ hA6 ?_
      clear hK K
      refine wpAnyX_one (j := 4) rfl (by kernel_rfl) rfl fun K hK => ?_
      go_wp2
      refine hK.out _ _ hA6 ?_
      clear hK K
      refine wpAnyX_end [] [] rfl (by intro j i hj; simp at hj) (by kernel_rfl) (by intro i hi; simp at hi) fun K hK => ?_
      go_wp2
      refine hK.out _ _ ?_
      clear hK K
      go_wp2
      go_roundw
      case rel => exact ⟨k + 1, by omega, by go_num, hx.trans (hx05.trans hx6)⟩
      case measure => simp [intOf]; omega
    · go_wp2_with (go_at_call 11; refine (lawWires_any _).mono ?_; rintro e w4 ⟨rfl, hx4⟩)
      go_ret
      exact ⟨rfl, (hx03.trans hx).trans hx4⟩
end Go.Proofs.Ytgobejbboeeieaa
