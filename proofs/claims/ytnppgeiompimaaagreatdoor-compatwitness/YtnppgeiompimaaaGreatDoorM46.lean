import Derived.Test.YtnppgeiompimaaaGreatDoorM45
namespace Go.Proofs.YtnppgeiompimaaaGreatDoor
set_option linter.unusedSimpArgs false
set_option linter.unusedVariables false
set_option linter.unusedSimpArgs false
set_option linter.unusedVariables false
open Go.RowKit

def projV (ws rs : BookM) (name : ByteArray) (K : Nat) (v : ValueM) : ValueM := projM ws rs K (namedA ws rs name) (namedB ws rs name) v
def projE (ws rs : BookM) (name : ByteArray) (K : Nat) (v : ValueM) : Int :=
  if namedE ws rs name ≠ 0 then namedE ws rs name else if typedM ws name K v ≠ 0 then typedM ws name K v else if allFlaws ws rs name ≠ [] then 8 else if largeB (K + 5) (projV ws rs name K v) = true then 7 else 0
def projA (ws rs : BookM) (name : ByteArray) (K : Nat) (v : ValueM) : ValueM := if projE ws rs name K v = 0 then projV ws rs name K v else ValueM.zero
theorem named_msg {ws rs : BookM} {name : ByteArray} (h : namedE ws rs name = 0) : msgE ws name = 0 ∧ msgT ws name = namedA ws rs name ∧ msgE rs name = 0 ∧ msgT rs name = namedB ws rs name := by
  obtain ⟨g1, g2, a, b, fa, fb⟩ := named_ok h
  have ea := find_name fa
  have eb := find_name fb
  obtain ⟨p1, p2⟩ := msg_name g1 a
  obtain ⟨q1, q2⟩ := msg_name g2 b
  rw [ea] at p1 p2
  rw [eb] at q1 q2
  exact ⟨p1, p2, q1, q2⟩
/-- Where there is no flaw: what project asks, and that what it makes is read of the bytes. -/
theorem noflaw_of {ws rs : BookM} {name : ByteArray} (h : namedE ws rs name = 0) (hf : allFlaws ws rs name = []) :
    ∃ S : TypeM → TypeM → Prop, NoFlaw ws rs S ∧ S (namedA ws rs name) (namedB ws rs name) := by
  obtain ⟨g1, g2, a, b, _, _⟩ := named_ok h
  unfold allFlaws at hf
  rw [List.flatMap_eq_nil_iff] at hf
  exact ⟨_, reach_noflaw (s := 0) (d := 0) g1 g2 a b hf⟩
theorem projV_read {ws rs : BookM} {name : ByteArray} {K : Nat} {v : ValueM} (h : namedE ws rs name = 0) (hf : allFlaws ws rs name = []) (hfit : Fits K v) (ht : typedM ws name K v = 0) : readM rs 23 (namedB ws rs name) ⟨(encV K v).toArray⟩ = (0, projV ws rs name K v) := by
  obtain ⟨g1, g2, a, b, _, _⟩ := named_ok h
  obtain ⟨S, hS, hs⟩ := noflaw_of h hf
  obtain ⟨t1, t2, t3, t4⟩ := typed_out hfit ht
  rw [(named_msg h).2.1] at t4
  exact read_proj g1 g2 hS a b hs hfit t4 t3 (by omega)
theorem projV_small {ws rs : BookM} {name : ByteArray} {K : Nat} {v : ValueM} (h : namedE ws rs name = 0) (hf : allFlaws ws rs name = []) (hfit : Fits K v) (ht : typedM ws name K v = 0) (m : Nat) : cntM m (projV ws rs name K v) ≤ 1048576 := by
  obtain ⟨g1, g2, a, b, _, _⟩ := named_ok h
  exact read_small g2 b (projV_read h hf hfit ht)
end Go.Proofs.YtnppgeiompimaaaGreatDoor

namespace Go.Proofs.YtnppgeiompimaaaGreatDoor
set_option linter.unusedSimpArgs false
set_option linter.unusedVariables false
open Go.RowKit

theorem flaws_none {ws rs : BookM} {name : ByteArray} {l : List FlawM} (h : FlawsOk ws rs name l) (he : namedE ws rs name = 0) : (compM l).length = 0 ↔ allFlaws ws rs name = [] := by
  obtain ⟨hp, _⟩ := h.2 he
  rw [List.length_eq_zero_iff, compM_nil]
  constructor
  · intro e; rw [e] at hp; exact List.perm_nil.1 hp.symm
  · intro e; rw [e] at hp; exact List.perm_nil.1 hp
set_option maxHeartbeats 25600000 in
set_option maxRecDepth 10000 in
theorem projectP_any (s1 s2 : SV) (ws rs : BookM) (name : ByteArray) (Kh : Nat) (v : ValueM) (ids l : SV) (w : World) (h1 : BookAt w s1 ws) (h2 : BookAt w s2 rs) (hw : WordsAt w) (n1 : ws.Fits) (n2 : rs.Fits)
    (hsv : SmallV Kh v) (hc : cntM Kh v ≤ 1048576) (hv : ValueAt Kh w [.int .i64 v.kind, .int .i64 v.n, .string v.s, .slice ids.a ids.len ids.cap, .slice l.a l.len l.cap] v) :
    Calls Tryz.prog 13 #[.agg #[.slice s1.a s1.len s1.cap], .agg #[.slice s2.a s2.len s2.cap], .string name, .agg #[.int .i64 v.kind, .int .i64 v.n, .string v.s, .slice ids.a ids.len ids.cap, .slice l.a l.len l.cap]] w fun e w' => ∃ ids' l' : SV, e = .returned (.tuple #[.agg #[.int .i64 (projA ws rs name Kh v).kind, .int .i64 (projA ws rs name Kh v).n, .string (projA ws rs name Kh v).s, .slice ids'.a ids'.len ids'.cap, .slice l'.a l'.len l'.cap], .int .i64 (projE ws rs name Kh v)]) ∧
      ValueAt (Kh + 5) w' [.int .i64 (projA ws rs name Kh v).kind, .int .i64 (projA ws rs name Kh v).n, .string (projA ws rs name Kh v).s, .slice ids'.a ids'.len ids'.cap, .slice l'.a l'.len l'.cap] (projA ws rs name Kh v) ∧ Ext w w' := by
  obtain ⟨W, hW⟩ : ∃ W, W = ((((w.alloc (.cells #[.slice s1.a s1.len s1.cap] 24)).alloc (.cells #[.slice s2.a s2.len s2.cap] 24)).alloc (.cells #[.int .i64 v.kind, .int .i64 v.n, .string v.s, .slice ids.a ids.len ids.cap, .slice l.a l.len l.cap] 37)).alloc (.cells #[.int .i64 0, .int .i64 0, .string ⟨#[]⟩, .slice none 0 0, .slice none 0 0] 37)).alloc (.cells #[.slice s1.a s1.len s1.cap, .slice s2.a s2.len s2.cap] 52) := ⟨_, rfl⟩
  obtain ⟨hxW, hzW, r0, r1, r2, r3, r4⟩ := heaps5 hW
  have HN := fun w' (hx : Ext w w') => pairNamed_any s1 s2 ws rs name w' (h1.ext hx) (h2.ext hx) (hw.ext hx) n1 n2
  have HT := fun w' (hx : Ext w w') => typed_any s1 ws name Kh v ids l w' (h1.ext hx) (hw.ext hx) n1 hsv hc (hv.ext hx)
  have HFl := fun w' (hx : Ext w w') => flawsAll_any s1 s2 ws rs name w' (h1.ext hx) (h2.ext hx) (hw.ext hx) n1 n2
  have HP : namedE ws rs name = 0 → typedM ws name Kh v = 0 → allFlaws ws rs name = [] → ∀ (tv uv : TV) (w' : World), Ext w w' → TypeAt w' tv (namedA ws rs name) → TypeAt w' uv (namedB ws rs name) →
      Calls Tryz.prog 33 #[.agg #[.slice s1.a s1.len s1.cap, .slice s2.a s2.len s2.cap], .agg #[.string tv.name, .bool tv.enum, .slice tv.fields.a tv.fields.len tv.fields.cap, .slice tv.gone.a tv.gone.len tv.gone.cap, .slice tv.items.a tv.items.len tv.items.cap, .string uv.name, .bool uv.enum, .slice uv.fields.a uv.fields.len uv.fields.cap, .slice uv.gone.a uv.gone.len uv.gone.cap, .slice uv.items.a uv.items.len uv.items.cap, .int .i64 0, .int .i64 0], .agg #[.int .i64 v.kind, .int .i64 v.n, .string v.s, .slice ids.a ids.len ids.cap, .slice l.a l.len l.cap]] w' fun e w'' => ∃ ids' l' : SV, e = .returned (.agg #[.int .i64 2, .int .i64 0, .string ⟨#[]⟩, .slice ids'.a ids'.len ids'.cap, .slice l'.a l'.len l'.cap]) ∧
        ValueAtP (Btw w' w'') (Kh + 5) w'' [.int .i64 2, .int .i64 0, .string ⟨#[]⟩, .slice ids'.a ids'.len ids'.cap, .slice l'.a l'.len l'.cap] (projV ws rs name Kh v) ∧ Ext w' w'' := fun he ht hf tv uv w' hx htv huv => by
    obtain ⟨g1, g2, a, b, _, _⟩ := named_ok he
    obtain ⟨S, hS, hs⟩ := noflaw_of he hf
    obtain ⟨_, _, t3, t4⟩ := typed_out hv.fits ht
    rw [(named_msg he).2.1] at t4
    exact project_any s1 s2 ws rs S g1 g2 hS (good_small g1) (good_small g2) n2 Kh tv uv (namedA ws rs name) (namedB ws rs name) 0 0 v ids l w' (h1.ext hx) (h2.ext hx) (hw.ext hx) htv huv a b hs t4 (by omega) (hv.ext hx)
  have HSm := fun (he : namedE ws rs name = 0) (hf : allFlaws ws rs name = []) (ht : typedM ws name Kh v = 0) => projV_small he hf hv.fits ht (Kh + 5)
  have E1 : namedE ws rs name ≠ 0 → projE ws rs name Kh v = namedE ws rs name ∧ projA ws rs name Kh v = ValueM.zero := fun h => by
    have e : projE ws rs name Kh v = namedE ws rs name := by unfold projE; rw [if_pos h]
    exact ⟨e, by unfold projA; rw [e, if_neg h]⟩
  have E2 : namedE ws rs name = 0 → typedM ws name Kh v ≠ 0 → projE ws rs name Kh v = typedM ws name Kh v ∧ projA ws rs name Kh v = ValueM.zero := fun h h' => by
    have e : projE ws rs name Kh v = typedM ws name Kh v := by unfold projE; rw [if_neg (by simp [h]), if_pos h']
    exact ⟨e, by unfold projA; rw [e, if_neg h']⟩
  have E3 : namedE ws rs name = 0 → typedM ws name Kh v = 0 → allFlaws ws rs name ≠ [] → projE ws rs name Kh v = 8 ∧ projA ws rs name Kh v = ValueM.zero := fun h h' hf => by
    have e : projE ws rs name Kh v = 8 := by unfold projE; rw [if_neg (by simp [h]), if_neg (by simp [h']), if_pos hf]
    exact ⟨e, by unfold projA; rw [e, if_neg (by decide)]⟩
  have E4 : namedE ws rs name = 0 → typedM ws name Kh v = 0 → allFlaws ws rs name = [] → largeB (Kh + 5) (projV ws rs name Kh v) = true → projE ws rs name Kh v = 7 ∧ projA ws rs name Kh v = ValueM.zero := fun h h' hf hl => by
    have e : projE ws rs name Kh v = 7 := by unfold projE; rw [if_neg (by simp [h]), if_neg (by simp [h']), if_neg (by simp [hf]), if_pos hl]
    exact ⟨e, by unfold projA; rw [e, if_neg (by decide)]⟩
  have E5 : namedE ws rs name = 0 → typedM ws name Kh v = 0 → allFlaws ws rs name = [] → largeB (Kh + 5) (projV ws rs name Kh v) = false → projE ws rs name Kh v = 0 ∧ projA ws rs name Kh v = projV ws rs name Kh v := fun h h' hf hl => by
    have e : projE ws rs name Kh v = 0 := by unfold projE; rw [if_neg (by simp [h]), if_neg (by simp [h']), if_neg (by simp [hf]), if_neg (by simp [hl])]
    exact ⟨e, by unfold projA; rw [e, if_pos rfl]⟩
  have HPV : ∀ e : namedE ws rs name = 0, typedM ws name Kh v = 0 → allFlaws ws rs name = [] → (projV ws rs name Kh v).kind = 2 ∧ (projV ws rs name Kh v).n = 0 ∧ (projV ws rs name Kh v).s = ⟨#[]⟩ := fun _ _ _ => by
    unfold projV
    cases Kh with
    | zero => exact hv.elim
    | succ Kh => exact ⟨rfl, rfl, rfl⟩
  have HLG : ∀ y : ValueM, Hid (largeB (Kh + 5) y = (decide (24 < depM (Kh + 5) y) || decide (400 < cntM (Kh + 5) y))) := fun y => rfl
  have HFN := fun (he : namedE ws rs name = 0) l (h : FlawsOk ws rs name l) => flaws_none h he
  generalize projE ws rs name Kh v = PE at *
  generalize projA ws rs name Kh v = PA at *
  generalize projV ws rs name Kh v = PV at *
  generalize FlawsOk ws rs name = FO at *
  generalize allFlaws ws rs name = AF at *
  generalize typedM ws name Kh v = tE at *
  generalize namedE ws rs name = nE at *
  have HN := hide HN
  have HT := hide HT
  have HFl := hide HFl
  have HP := hide HP
  have HSm := hide HSm
  have HPV := hide HPV
  have HFN := hide HFN
  have E1 := hide E1
  have E2 := hide E2
  have E3 := hide E3
  have E4 := hide E4
  have E5 := hide E5
  have HW := hide hW
  have h5a : w.heap.size + 5 ≤ W.heap.size := by omega
  have hfx := hv.fits
  clear hW hzW h1 h2 hw n1 n2 hsv hc hv
  have fin : ∀ (V : World) (er : Int), Ext W V → PE = er → PA = ValueM.zero → ∃ V', V' = ((((V.setCell ⟨w.heap.size + 1 + 1 + 1, 0, none⟩ (.int .i64 0)).setCell ⟨w.heap.size + 1 + 1 + 1, 1, none⟩ (.int .i64 0)).setCell ⟨w.heap.size + 1 + 1 + 1, 2, none⟩ (.string ⟨#[]⟩)).setCell ⟨w.heap.size + 1 + 1 + 1, 3, none⟩ (.slice none 0 0)).setCell ⟨w.heap.size + 1 + 1 + 1, 4, none⟩ (.slice none 0 0) ∧ V'.heap[w.heap.size + 1 + 1 + 1]? = some (.cells #[.int .i64 0, .int .i64 0, .string ⟨#[]⟩, .slice none 0 0, .slice none 0 0] 37 (0, 0)) ∧
      ∀ V'', Ext V' V'' → ∃ ids' l' : SV, Ending.returned (.tuple #[.agg #[.int .i64 0, .int .i64 0, .string ⟨#[]⟩, .slice none 0 0, .slice none 0 0], .int .i64 er]) = Ending.returned (.tuple #[.agg #[.int .i64 PA.kind, .int .i64 PA.n, .string PA.s, .slice ids'.a ids'.len ids'.cap, .slice l'.a l'.len l'.cap], .int .i64 PE]) ∧ ValueAt (Kh + 5) V'' [.int .i64 PA.kind, .int .i64 PA.n, .string PA.s, .slice ids'.a ids'.len ids'.cap, .slice l'.a l'.len l'.cap] PA ∧ Ext w V'' := fun V er hx e1 e2 => by
    obtain ⟨W6, hW6, r6, hx6, _, _⟩ := setN5 (hx.heap r3) (.int .i64 0) (.int .i64 0) (.string ⟨#[]⟩) (.slice none 0 0) (.slice none 0 0)
    exact ⟨W6, hW6, r6, fun V'' hx'' => ⟨⟨none, 0, 0⟩, ⟨none, 0, 0⟩, by rw [e1, e2]; rfl, by rw [e2]; exact (zeroAt (fun _ => True) (Kh + 4) V'').at_, (hx6 w (hxW.trans hx) (by omega)).trans hx''⟩⟩
  have Hfin := hide fin
  clear fin
  obtain ⟨a0, _⟩ := row1 r0
  obtain ⟨a1, _⟩ := row1 r1
  obtain ⟨b0, b1, _⟩ := rowN2 r4
  go_enter Tryz.func13, Tryz.ntmps13
  go_wp2_with fail
  rw [← unhide HW]
  refine (unhide HN W hxW).mono ?_
  rintro e w1 ⟨tv, uv, rfl, ht, hu, x1⟩
  have f1 := hxW.trans x1
  obtain ⟨W2, hW2⟩ : ∃ W2, W2 = w1.alloc (.cells #[.string tv.name, .bool tv.enum, .slice tv.fields.a tv.fields.len tv.fields.cap, .slice tv.gone.a tv.gone.len tv.gone.cap, .slice tv.items.a tv.items.len tv.items.cap, .string uv.name, .bool uv.enum, .slice uv.fields.a uv.fields.len uv.fields.cap, .slice uv.gone.a uv.gone.len uv.gone.cap, .slice uv.items.a uv.items.len uv.items.cap, .int .i64 0, .int .i64 0] 54) := ⟨_, rfl⟩
  have x2 : Ext w1 W2 := by rw [hW2]; exact (Ext.refl w1).alloc _
  have r5 : W2.heap[w1.heap.size]? = some (.cells #[.string tv.name, .bool tv.enum, .slice tv.fields.a tv.fields.len tv.fields.cap, .slice tv.gone.a tv.gone.len tv.gone.cap, .slice tv.items.a tv.items.len tv.items.cap, .string uv.name, .bool uv.enum, .slice uv.fields.a uv.fields.len uv.fields.cap, .slice uv.gone.a uv.gone.len uv.gone.cap, .slice uv.items.a uv.items.len uv.items.cap, .int .i64 0, .int .i64 0] 54 (0, 0)) := by rw [hW2]; exact heap_alloc_new w1 _
  have xW2 := x1.trans x2
  have HW2 := hide hW2
  have Htu := hide (And.intro (ht.ext x2) (hu.ext x2))
  clear hW2 ht hu a0 a1 b0 b1
  obtain ⟨a0, _⟩ := row1 (x1.heap r0)
  obtain ⟨v0, v1, v2, v3, v4, _⟩ := rowN5 (x1.heap r2)
  have z0 := lt_of_heap (x1.heap r0)
  have z2 := lt_of_heap (x1.heap r2)
  have hs1 := x1.size
  have hs2 := x2.size
  by_cases hn : nE = 0
  · subst hn
    have HT1 := unhide HT W2 (hxW.trans xW2)
    have HT1 := hide HT1
    go_wp2_with fail
    rw [← unhide HW2]
    refine (unhide HT1).mono ?_
    rintro e w3 ⟨rfl, x3⟩
    have f3 := xW2.trans x3
    clear a0 v0 v1 v2 v3 v4 z0 z2
    by_cases ht0 : tE = 0
    · subst ht0
      obtain ⟨a0, _⟩ := row1 (f3.heap r0)
      obtain ⟨a1, _⟩ := row1 (f3.heap r1)
      have HF1 := unhide HFl w3 (hxW.trans f3)
      have HF1 := hide HF1
      go_wp2_with fail
      refine (unhide HF1).mono ?_
      rintro e w4 ⟨sf, lf, rfl, hfo, hof, x4⟩
      have f4 := f3.trans x4
      have hnil := unhide HFN (by trivial) lf hfo
      have hsl : sf.len = (compM lf).length := by
        rcases hof.2 with ⟨e, h0⟩ | ⟨g, cap, cur, e, _⟩
        · simp only [Value.slice.injEq] at e; omega
        · simp only [Value.slice.injEq] at e; exact e.2.1
      obtain ⟨sfa, sfl, sfc⟩ := sf
      simp only at hsl
      subst hsl
      clear a0 a1 hof hfo HF1 HT1 HFl HT HN
      by_cases hl0 : (compM lf).length = 0
      · have hAF := hnil.1 hl0
        have hlb : decide ((0 : Int) < ((compM lf).length : Int)) = false := by rw [hl0]; rfl
        have hlc : ¬ ((0 : Int) < ((compM lf).length : Int)) := by omega
        have hP := unhide HP (by trivial) (by trivial) hAF tv uv w4 (hxW.trans f4) ((unhide Htu).1.ext (x3.trans x4)) ((unhide Htu).2.ext (x3.trans x4))
        have HP1 := hide hP
        have hSm := unhide HSm (by trivial) hAF (by trivial)
        obtain ⟨k1, k2, k3⟩ := unhide HPV (by trivial) (by trivial) hAF
        have hE4 := unhide E4 (by trivial) (by trivial) hAF
        have hE5 := unhide E5 (by trivial) (by trivial) hAF
        have HE4 := hide hE4
        have HE5 := hide hE5
        have HSm1 := hide hSm
        have HK := hide (And.intro k1 (And.intro k2 k3))
        obtain ⟨b0, b1, _⟩ := rowN2 (f4.heap r4)
        obtain ⟨d0, d1, d2, d3, d4, d5, d6, d7, d8, d9, d10, d11, _⟩ := rowN12 ((x3.trans x4).heap r5)
        obtain ⟨v0, v1, v2, v3, v4, _⟩ := rowN5 (f4.heap r2)
        have z4 := lt_of_heap (f4.heap r4)
        clear hl0 hnil hAF hP hSm k1 k2 k3 hE4 hE5 E1 E2 E3 E4 E5 HP HSm HPV HFN
        go_wp2_with fail
        refine (unhide HP1).mono ?_
        rintro e w5 ⟨oi, ol, rfl, hov, x5⟩
        have f5 := f4.trans x5
        obtain ⟨W6, hW6⟩ : ∃ W6, W6 = w5.alloc (.cells #[.int .i64 2, .int .i64 0, .string ⟨#[]⟩, .slice oi.a oi.len oi.cap, .slice ol.a ol.len ol.cap] 37) := ⟨_, rfl⟩
        have x6 : Ext w5 W6 := by rw [hW6]; exact (Ext.refl w5).alloc _
        have r6 : W6.heap[w5.heap.size]? = some (.cells #[.int .i64 2, .int .i64 0, .string ⟨#[]⟩, .slice oi.a oi.len oi.cap, .slice ol.a ol.len ol.cap] 37 (0, 0)) := by rw [hW6]; exact heap_alloc_new w5 _
        have HovP := hide hov
        have hov6 := (hov.ext x6).at_
        have hsz := size_any (Kh + 5) PV oi ol W6 (by rw [(unhide HK).1, (unhide HK).2.1, (unhide HK).2.2]; exact hov6) (unhide HSm1)
        rw [(unhide HK).1, (unhide HK).2.1, (unhide HK).2.2] at hsz
        have Hsz := hide hsz
        have Hov6 := hide hov6
        have HW6 := hide hW6
        clear b0 b1 d0 d1 d2 d3 d4 d5 d6 d7 d8 d9 d10 d11 v0 v1 v2 v3 v4 z4 hsz hov6 hW6 hov HP1
        go_wp2_with fail
        rw [← unhide HW6]
        refine (unhide Hsz).mono ?_
        rintro e w7 ⟨rfl, x7⟩
        have f7 := (f5.trans x6).trans x7
        have hLg := unhide (HLG PV)
        generalize depM (Kh + 5) PV = dd at *
        generalize cntM (Kh + 5) PV = cc at *
        cases hlg : largeB (Kh + 5) PV with
        | true =>
          obtain ⟨q1, q2⟩ := unhide HE4 hlg
          obtain ⟨V', hV', rV, hfin⟩ := unhide Hfin w7 7 f7 q1 q2
          rw [hlg] at hLg
          have HV' := hide hV'
          have Hf := hide hfin
          obtain ⟨k0', k1', k2', k3', k4', _⟩ := rowN5 rV
          obtain ⟨y0, y1, y2, y3, y4, _⟩ := rowN5 (f7.heap r3)
          have z3 := lt_of_heap (f7.heap r3)
          have hdc : (24 : Int) < (dd : Int) ∨ (400 : Int) < (cc : Int) := by
            have := hLg.symm
            simp only [Bool.or_eq_true, decide_eq_true_eq] at this
            omega
          clear hV' hfin HE4 HE5 hLg q1 q2 Hsz hlg
          by_cases hd : (24 : Int) < (dd : Int)
          · go_wp2
            rw [← unhide HV']
            exact bodyPost_ret (v := .tuple #[.agg #[.int .i64 0, .int .i64 0, .string ⟨#[]⟩, .slice none 0 0, .slice none 0 0], .int .i64 7]) (by simp [results, Tryz.results13, go_sem, k0', k1', k2', k3', k4']) rfl (unhide Hf _ (Ext.refl _))
          · have hcc : (400 : Int) < (cc : Int) := by omega
            go_wp2
            rw [← unhide HV']
            exact bodyPost_ret (v := .tuple #[.agg #[.int .i64 0, .int .i64 0, .string ⟨#[]⟩, .slice none 0 0, .slice none 0 0], .int .i64 7]) (by simp [results, Tryz.results13, go_sem, k0', k1', k2', k3', k4']) rfl (unhide Hf _ (Ext.refl _))
        | false =>
          obtain ⟨q1, q2⟩ := unhide HE5 hlg
          rw [hlg] at hLg
          obtain ⟨V', hV', rV, hxV, hkV, hsV⟩ := setN5 (f7.heap r3) (.int .i64 2) (.int .i64 0) (.string ⟨#[]⟩) (.slice oi.a oi.len oi.cap) (.slice ol.a ol.len ol.cap)
          have hfV := hxV w (hxW.trans f7) (by omega)
          have hvV : ValueAt (Kh + 5) V' [.int .i64 2, .int .i64 0, .string ⟨#[]⟩, .slice oi.a oi.len oi.cap, .slice ol.a ol.len ol.cap] PV := by
            refine (((unhide HovP).ext (x6.trans x7)).keep fun b ob hb ho => ?_).at_
            have hb1 : w4.heap.size ≤ b := hb.1
            have h4s := f4.size
            rw [hkV b (by omega)]; exact ho
          have HV' := hide hV'
          have Hq := hide (And.intro q1 (And.intro q2 (And.intro hvV hfV)))
          obtain ⟨k0', k1', k2', k3', k4', _⟩ := rowN5 rV
          obtain ⟨y0, y1, y2, y3, y4, _⟩ := rowN5 (f7.heap r3)
          have z3 := lt_of_heap (f7.heap r3)
          obtain ⟨o0, o1, o2, o3, o4, _⟩ := rowN5 (x7.heap r6)
          have z6 := lt_of_heap (x7.heap r6)
          have hd : ¬ ((24 : Int) < (dd : Int)) := fun h => by
            have := hLg.symm
            simp only [Bool.or_eq_false_iff, decide_eq_false_iff_not] at this
            omega
          have hcc : ¬ ((400 : Int) < (cc : Int)) := fun h => by
            have := hLg.symm
            simp only [Bool.or_eq_false_iff, decide_eq_false_iff_not] at this
            omega
          clear hV' hxV hkV hsV hfV hvV HE4 HE5 hLg q1 q2 Hsz hlg
          go_wp2
          rw [← unhide HV']
          refine bodyPost_ret (v := .tuple #[.agg #[.int .i64 2, .int .i64 0, .string ⟨#[]⟩, .slice oi.a oi.len oi.cap, .slice ol.a ol.len ol.cap], .int .i64 0]) (by simp [results, Tryz.results13, go_sem, k0', k1', k2', k3', k4']) rfl ⟨oi, ol, ?_, ?_, (unhide Hq).2.2.2⟩
          · rw [(unhide Hq).1, (unhide Hq).2.1, (unhide HK).1, (unhide HK).2.1, (unhide HK).2.2]
          · rw [(unhide Hq).2.1, (unhide HK).1, (unhide HK).2.1, (unhide HK).2.2]; exact (unhide Hq).2.2.1
      · have hAF : AF ≠ [] := fun e => hl0 (hnil.2 e)
        obtain ⟨V', hV', rV, hfin⟩ := unhide Hfin w4 8 f4 (unhide E3 (by trivial) (by trivial) hAF).1 (unhide E3 (by trivial) (by trivial) hAF).2
        have hlc : (0 : Int) < ((compM lf).length : Int) := by omega
        have HV' := hide hV'
        have Hf := hide hfin
        obtain ⟨k0', k1', k2', k3', k4', _⟩ := rowN5 rV
        obtain ⟨y0, y1, y2, y3, y4, _⟩ := rowN5 (f4.heap r3)
        have z3 := lt_of_heap (f4.heap r3)
        clear hV' hfin E1 E2 E3 E4 E5 HP HSm HPV HFN hl0 hnil hAF
        go_wp2
        rw [← unhide HV']
        exact bodyPost_ret (v := .tuple #[.agg #[.int .i64 0, .int .i64 0, .string ⟨#[]⟩, .slice none 0 0, .slice none 0 0], .int .i64 8]) (by simp [results, Tryz.results13, go_sem, k0', k1', k2', k3', k4']) rfl (unhide Hf _ (Ext.refl _))
    · have htb : (tE == 0) = false := by simpa using ht0
      obtain ⟨V', hV', rV, hfin⟩ := unhide Hfin w3 tE f3 (unhide E2 (by trivial) ht0).1 (unhide E2 (by trivial) ht0).2
      have HV' := hide hV'
      have Hf := hide hfin
      obtain ⟨k0', k1', k2', k3', k4', _⟩ := rowN5 rV
      obtain ⟨y0, y1, y2, y3, y4, _⟩ := rowN5 (f3.heap r3)
      have z3 := lt_of_heap (f3.heap r3)
      clear hV' hfin E1 E2 E3 E4 E5 HP HSm HPV HFN HN HT HFl HT1 ht0
      go_wp2
      rw [← unhide HV']
      exact bodyPost_ret (v := .tuple #[.agg #[.int .i64 0, .int .i64 0, .string ⟨#[]⟩, .slice none 0 0, .slice none 0 0], .int .i64 tE]) (by simp [results, Tryz.results13, go_sem, k0', k1', k2', k3', k4']) rfl (unhide Hf _ (Ext.refl _))
  · have hnb : (nE == 0) = false := by simpa using hn
    obtain ⟨V', hV', rV, hfin⟩ := unhide Hfin w1 nE x1 (unhide E1 hn).1 (unhide E1 hn).2
    have HV' := hide hV'
    have Hf := hide hfin
    have rV2 : ∀ o, (V'.alloc o).heap[w.heap.size + 1 + 1 + 1]? = some (.cells #[.int .i64 0, .int .i64 0, .string ⟨#[]⟩, .slice none 0 0, .slice none 0 0] 37 (0, 0)) := fun o => ((Ext.refl V').alloc o).heap rV
    obtain ⟨k0', k1', k2', k3', k4', _⟩ := rowN5 rV
    have zV := lt_of_heap rV
    obtain ⟨y0, y1, y2, y3, y4, _⟩ := rowN5 (x1.heap r3)
    have z3 := lt_of_heap (x1.heap r3)
    clear hV' hfin E1 E2 E3 E4 E5 HP HSm HPV HFN HN HT HFl hn
    go_wp2
    rw [← unhide HV']
    exact bodyPost_ret (v := .tuple #[.agg #[.int .i64 0, .int .i64 0, .string ⟨#[]⟩, .slice none 0 0, .slice none 0 0], .int .i64 nE]) (by simp [results, Tryz.results13, go_sem, k0', k1', k2', k3', k4', zV]) rfl (unhide Hf _ ((Ext.refl _).alloc _))
end Go.Proofs.YtnppgeiompimaaaGreatDoor

