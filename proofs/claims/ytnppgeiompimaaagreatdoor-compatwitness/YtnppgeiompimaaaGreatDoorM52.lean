import Derived.Test.YtnppgeiompimaaaGreatDoorM51
namespace Go.Proofs.YtnppgeiompimaaaGreatDoor
set_option linter.unusedSimpArgs false
set_option linter.unusedVariables false
set_option linter.unusedSimpArgs false
set_option linter.unusedVariables false
open Go.RowKit

/-- Where there is a flaw: the witness is written, and not read. -/
theorem wit_some {ws rs : BookM} {name : ByteArray} (h : namedE ws rs name = 0) {v : ValueM} (hv : witA ws rs name = some v) :
    ∃ K, Fits K v ∧ typedM ws name K v = 0 ∧ SmallV K v ∧ cntM K v ≤ 1048576 ∧ (encA ws name K v).size ≤ 20000 ∧ ((decA rs name (encA ws name K v)).1 = 4 ∨ (decA rs name (encA ws name K v)).1 = 5 ∨ (decA rs name (encA ws name K v)).1 = 6) := by
  obtain ⟨g1, g2, a, b, _, _⟩ := named_ok h
  obtain ⟨q1, q2, q3, q4⟩ := named_msg h
  unfold witA at hv
  rw [if_pos h] at hv
  have hR := (reach_out (s := 0) (d := 0) g1 g2 a b).1
  obtain ⟨K, c, hK, hc, hbad⟩ := witness_bad g1 g2 hR (m := reachM ws rs (firstP ws rs name)) (i := 0) (fun j => by rw [Nat.zero_add]; rfl) hv
  have hrd := Bad.read g1 g2 hbad a b (by omega) hc
  have hty : TypedP ws K (namedA ws rs name) v := hbad.typed
  have hct := hbad.cnt K
  have ht : typedM ws name K v = 0 := by
    unfold typedM
    have hlg : largeB K v = false := by
      unfold largeB
      have := fits_dep_le hbad.fits
      rw [Bool.or_eq_false_iff]
      exact ⟨by simp; omega, by simp; omega⟩
    rw [if_neg (by simp [q1]), if_neg (by simp [hlg]), q2]
    exact typed_wrong hty
  refine ⟨K, hbad.fits, ht, TypedP.small g1 a hty hbad.fits (by omega), by omega, (decA_enc hbad.fits ht).2, ?_⟩
  have he : encA ws name K v = ⟨(encV K v).toArray⟩ := if_pos ht
  have hrd' : (readM rs 23 (namedB ws rs name) ⟨(encV K v).toArray⟩).1 = 4 ∨ (readM rs 23 (namedB ws rs name) ⟨(encV K v).toArray⟩).1 = 5 ∨ (readM rs 23 (namedB ws rs name) ⟨(encV K v).toArray⟩).1 = 6 := hrd
  unfold decA
  rw [he, q3, q4, if_neg (by simp), if_pos (by omega)]
  exact hrd'
theorem wit_none {ws rs : BookM} {name : ByteArray} (h : namedE ws rs name = 0) : witA ws rs name = none ↔ allFlaws ws rs name = [] := by
  unfold witA allFlaws
  rw [if_pos h, witness_none, List.flatMap_eq_nil_iff]
theorem small_zero {K : Nat} : SmallV (K + 1) ValueM.zero := ⟨by decide, by simp [ValueM.zero], by simp [ValueM.zero], fun x hx => by simp [ValueM.zero] at hx⟩
theorem same_zero (K : Nat) (ids l : SV) (w : World) (h : ValueAt K w [.int .i64 0, .int .i64 0, .string ⟨#[]⟩, .slice ids.a ids.len ids.cap, .slice l.a l.len l.cap] ValueM.zero) :
    Calls Tryz.prog 20 #[.agg #[.int .i64 0, .int .i64 0, .string ⟨#[]⟩, .slice ids.a ids.len ids.cap, .slice l.a l.len l.cap], .agg #[.int .i64 0, .int .i64 0, .string ⟨#[]⟩, .slice none 0 0, .slice none 0 0]] w fun e w' => e = .returned (.bool true) ∧ Ext w w' := by
  cases K with
  | zero => exact h.elim
  | succ K => exact sameValue_true (K + 1) 1 ValueM.zero ids l ⟨none, 0, 0⟩ ⟨none, 0, 0⟩ w small_zero h (zeroAt (fun _ => True) 0 w).at_
set_option maxHeartbeats 12800000 in
set_option maxRecDepth 10000 in
theorem compatWitness_calls (s1 s2 : SV) (ws rs : BookM) (name : ByteArray) (w : World) (h1 : BookAt w s1 ws) (h2 : BookAt w s2 rs) (hw : WordsAt w) (n1 : ws.Fits) (n2 : rs.Fits) :
    Calls Tryz.prog 6 #[.agg #[.slice s1.a s1.len s1.cap], .agg #[.slice s2.a s2.len s2.cap], .string name] w fun e w' => e = .returned (.bool true) ∧ Ext w w' := by
  obtain ⟨W, hW⟩ : ∃ W, W = (w.alloc (.cells #[.slice s1.a s1.len s1.cap] 24)).alloc (.cells #[.slice s2.a s2.len s2.cap] 24) := ⟨_, rfl⟩
  obtain ⟨hxW, hzW, r0, r1⟩ := heaps2 hW
  have HFl := fun w' (hx : Ext w w') => flawsAll_any s1 s2 ws rs name w' (h1.ext hx) (h2.ext hx) (hw.ext hx) n1 n2
  have HWi := fun w' (hx : Ext w w') => witness_any s1 s2 ws rs name w' (h1.ext hx) (h2.ext hx) (hw.ext hx) n1 n2
  have HFi := fun w' (hx : Ext w w') => finds_ok w' (hw.ext hx)
  have HEn := fun (K : Nat) (v : ValueM) (ids l : SV) w' (hx : Ext w w') hsv hc hv => encode_value s1 ws name K v ids l w' (h1.ext hx) (hw.ext hx) n1 hsv hc hv
  have HDe := fun (s : ByteArray) (he : s.size ≤ 9223372036854775807) w' (hx : Ext w w') => decode_value s2 rs name s w' (h2.ext hx) (hw.ext hx) n2 he
  have HFN := fun (he : namedE ws rs name = 0) l (h : FlawsOk ws rs name l) => (flaws_none h he).trans (wit_none he).symm
  have HSo := fun (h : namedE ws rs name = 0) v (hv : witA ws rs name = some v) => wit_some h hv
  have E1 : namedE ws rs name ≠ 0 → witE ws rs name = namedE ws rs name ∧ witA ws rs name = none := fun h => ⟨by unfold witE; rw [if_pos h], by unfold witA; rw [if_neg h]⟩
  have E3 : namedE ws rs name = 0 → witE ws rs name = if (witA ws rs name).isSome then 0 else 3 := fun h => by unfold witE; rw [if_neg (by simp [h])]
  generalize witE ws rs name = WE at *
  generalize witA ws rs name = WA at *
  generalize FlawsOk ws rs name = FO at *
  generalize namedE ws rs name = nE at *
  replace HFl := hide HFl
  replace HWi := hide HWi
  replace HFi := hide HFi
  replace HEn := hide HEn
  replace HDe := hide HDe
  replace HFN := hide HFN
  replace HSo := hide HSo
  replace E1 := hide E1
  replace E3 := hide E3
  have HW := hide hW
  clear hW h1 h2 hw n1 n2
  obtain ⟨a0, _⟩ := row1 r0
  obtain ⟨a1, _⟩ := row1 r1
  go_enter Tryz.func6, Tryz.ntmps6
  go_wp2_with fail
  rw [← unhide HW]
  refine (unhide HFl W hxW).mono ?_
  rintro e w1 ⟨sf, lf, rfl, hfo, hof, x1⟩
  have hnil0 := fun he => unhide HFN he lf hfo
  have hsl : sf.len = (compM lf).length := by
    rcases hof.2 with ⟨e, h0⟩ | ⟨g, cap, cur, e, _⟩
    · simp only [Value.slice.injEq] at e; omega
    · simp only [Value.slice.injEq] at e; exact e.2.1
  obtain ⟨sfa, sfl, sfc⟩ := sf
  simp only at hsl
  rw [← hsl] at hnil0
  have hnil := hide hnil0
  clear hof hfo a0 a1 hnil0 hsl
  obtain ⟨a0, _⟩ := row1 (x1.heap r0)
  obtain ⟨a1, _⟩ := row1 (x1.heap r1)
  have f1 := hxW.trans x1
  go_wp2_with fail
  refine (unhide HWi w1 f1).mono ?_
  rintro e w2 ⟨pi, pl, K, rfl, hpv, x2⟩
  have f2 := f1.trans x2
  clear a0 a1
  obtain ⟨PA, hPA⟩ : ∃ PA, PA = WA.getD ValueM.zero := ⟨_, rfl⟩
  rw [← hPA] at hpv ⊢
  obtain ⟨W5, hW5⟩ : ∃ W5, W5 = w2.alloc (.cells #[.int .i64 PA.kind, .int .i64 PA.n, .string PA.s, .slice pi.a pi.len pi.cap, .slice pl.a pl.len pl.cap] 37) := ⟨_, rfl⟩
  have x5 : Ext w2 W5 := by rw [hW5]; exact (Ext.refl w2).alloc _
  have r5 : W5.heap[w2.heap.size]? = some (.cells #[.int .i64 PA.kind, .int .i64 PA.n, .string PA.s, .slice pi.a pi.len pi.cap, .slice pl.a pl.len pl.cap] 37 (0, 0)) := by rw [hW5]; exact heap_alloc_new w2 _
  have hpv5 := hpv.ext x5
  have f5 := f2.trans x5
  have hF5 := hide (fun w' (hx : Ext W5 w') => unhide HFi w' (f5.trans hx))
  have HW5 := hide hW5
  have Hpv := hide hpv5
  have Hnil := hnil
  clear hW5 hpv hpv5 HFl HWi HFN HFi hnil
  have hzero : WA = none → PA.kind = 0 ∧ PA.n = 0 ∧ PA.s = ⟨#[]⟩ ∧ PA = ValueM.zero := fun h => by
    have e : PA = ValueM.zero := by rw [hPA, h]; rfl
    exact ⟨by rw [e]; rfl, by rw [e]; rfl, by rw [e]; rfl, e⟩
  have HSame := fun (h : WA = none) w' (hx : Ext W5 w') => (show Calls Tryz.prog 20 #[.agg #[.int .i64 PA.kind, .int .i64 PA.n, .string PA.s, .slice pi.a pi.len pi.cap, .slice pl.a pl.len pl.cap], .agg #[.int .i64 0, .int .i64 0, .string ⟨#[]⟩, .slice none 0 0, .slice none 0 0]] w' fun e w'' => e = .returned (.bool true) ∧ Ext w' w'' from by
    obtain ⟨z1, z2, z3, z4⟩ := hzero h
    have hv := (unhide Hpv).ext hx
    rw [z1, z2, z3, z4] at hv
    rw [z1, z2, z3]
    exact same_zero K pi pl w' hv)
  replace HSame := hide HSame
  by_cases hn : nE = 0
  · subst hn
    have hE3 := unhide E3 (by trivial)
    have hnn := unhide Hnil (by trivial)
    by_cases hWA : WA = none
    · have hl0 := hnn.2 hWA
      have hS := hide (unhide HSame hWA)
      have hWE : WE = 3 := by rw [hE3, hWA]; rfl
      subst hl0 hWE
      clear hE3 hnn hzero hPA HSo E1 E3 Hnil HEn HDe HSame hWA
      go_wp2_with fail
      rw [← unhide HW5]
      refine (unhide hF5 W5 (Ext.refl _)).mono ?_
      rintro e w6 ⟨rfl, x6⟩
      obtain ⟨y0, y1, y2, y3, y4, _⟩ := rowN5 (x6.heap r5)
      go_wp2_with fail
      refine (unhide hS w6 x6).mono ?_
      rintro e w7 ⟨rfl, x7⟩
      go_wp2
      go_ret
      exact ⟨rfl, (f5.trans x6).trans x7⟩
    · obtain ⟨v, hWA⟩ := Option.ne_none_iff_exists'.1 hWA
      have hl0 : sfl ≠ 0 := fun e => by have := hnn.1 e; rw [hWA] at this; cases this
      obtain ⟨Kv, hfit, hty, hsm, hcn, hse, hdd⟩ := unhide HSo (by trivial) v hWA
      have hWE : WE = 0 := by rw [hE3, hWA]; rfl
      have hPv : PA = v := by rw [hPA, hWA]; rfl
      subst hWE hPv
      have hlp : 0 < sfl := by omega
      have hlc : ((sfl : Int) == 0) = false := by rw [beq_eq_false_iff_ne]; omega
      have hEc := fun w' (hx : Ext W5 w') => unhide HEn Kv PA pi pl w' (f5.trans hx) hsm hcn (((unhide Hpv).low hfit).ext hx)
      rw [hty] at hEc
      have HEc := hide hEc
      have hDc := fun w' (hx : Ext W5 w') => unhide HDe (encA ws name Kv PA) (by omega) w' (f5.trans hx)
      have HDc := hide hDc
      have Hdd := hide hdd
      generalize encA ws name Kv PA = s at *
      clear hE3 hnn hWA hzero hPA HSo E1 E3 Hnil HEn HDe HSame hEc hDc hdd hty hsm hcn hse hfit hl0
      go_wp2_with fail
      rw [← unhide HW5]
      refine (unhide hF5 W5 (Ext.refl _)).mono ?_
      rintro e w6 ⟨rfl, x6⟩
      obtain ⟨y0, y1, y2, y3, y4, _⟩ := rowN5 (x6.heap r5)
      obtain ⟨a0, _⟩ := row1 (((x1.trans x2).trans (x5.trans x6)).heap r0)
      go_wp2_with fail
      refine (unhide HEc w6 x6).mono ?_
      rintro e w7 ⟨rfl, x7⟩
      obtain ⟨a1, _⟩ := row1 ((((x1.trans x2).trans (x5.trans x6)).trans x7).heap r1)
      clear y0 y1 y2 y3 y4 a0
      go_wp2_with fail
      refine (unhide HDc w7 (x6.trans x7)).mono ?_
      rintro e w8 ⟨di, dl, rfl, hdv, x8⟩
      have hdd := unhide Hdd
      generalize decA rs name s = D at *
      obtain ⟨De, Dv⟩ := D
      simp only at hdd hdv ⊢
      clear hdv a1
      have hx8 : Ext w (w8.alloc (.cells #[.int .i64 Dv.kind, .int .i64 Dv.n, .string Dv.s, .slice di.a di.len di.cap, .slice dl.a dl.len dl.cap] 37)) := (((f5.trans x6).trans x7).trans x8).alloc _
      rcases hdd with h | h | h
      · subst h
        go_wp2
        go_ret
        exact ⟨rfl, hx8⟩
      · subst h
        go_wp2
        go_ret
        exact ⟨rfl, hx8⟩
      · subst h
        go_wp2
        go_ret
        exact ⟨rfl, hx8⟩
  · have hnb : (nE != 0) = true := by simpa using hn
    obtain ⟨e1, e2⟩ := unhide E1 hn
    have hS := hide (unhide HSame e2)
    subst e1
    obtain ⟨y0, y1, y2, y3, y4, _⟩ := rowN5 r5
    clear hn hzero hPA HSo E1 E3 Hnil HEn HDe HSame e2
    go_wp2_with fail
    rw [← unhide HW5]
    refine (unhide hS W5 (Ext.refl _)).mono ?_
    rintro e w6 ⟨rfl, x6⟩
    go_wp2_with fail
    refine (unhide hF5 w6 x6).mono ?_
    rintro e w7 ⟨rfl, x7⟩
    go_wp2
    go_ret
    exact ⟨rfl, (f5.trans x6).trans x7⟩
end Go.Proofs.YtnppgeiompimaaaGreatDoor

