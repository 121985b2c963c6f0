import Derived.Test.YtnppgeiompimaaaGreatDoorM47
namespace Go.Proofs.YtnppgeiompimaaaGreatDoor
set_option linter.unusedSimpArgs false
set_option linter.unusedVariables false
set_option linter.unusedSimpArgs false
set_option linter.unusedVariables false
open Go.RowKit

theorem fits_proj {ws rs : BookM} (hgw : goodM ws = 0) (hgr : goodM rs = 0) {S : TypeM → TypeM → Prop} (hS : NoFlaw ws rs S) : ∀ {K : Nat} {t u : TypeM} {v : ValueM}, Msg ws t → Msg rs u → S t u → TypedP ws K t v → Fits (K + 5) (projM ws rs K t u v)
  | 0, _, _, _, _, _, _, h => h.elim
  | K + 1, t, u, v, ht, hu, hst, hty => by
    show ∀ x ∈ (projL ws rs (projM ws rs K) t v u.fields).map (·.2), Fits (K + 5) x
    intro x hx
    obtain ⟨p, hp, rfl⟩ := List.mem_map.1 hx
    unfold projL at hp
    obtain ⟨g, hg, hp⟩ := List.mem_flatMap.1 hp
    unfold pieceM at hp
    rcases List.mem_append.1 hp with hp | hp
    · obtain ⟨y, hy, rfl⟩ := List.mem_map.1 hp
      simp only
      unfold projField at hy
      cases hf : fieldM t g.id with
      | none => rw [hf] at hy; cases hy
      | some f =>
        rw [hf] at hy
        obtain ⟨q, hq, rfl⟩ := List.mem_map.1 hy
        obtain ⟨k1, k2⟩ := known_of (Kh := K) hgw hgr hS ht hu hst (hu.find hgr hg) hf hty
        obtain ⟨hqm, hqi⟩ := List.mem_filter.1 hq
        obtain ⟨j, hj, e⟩ := List.getElem_of_mem hqm
        have hz : (v.ids.zip v.l)[j]? = some q := by rw [← e]; exact List.getElem?_eq_getElem hj
        rw [List.getElem?_zip_eq_some] at hz
        have hqi' : q.1 = g.id := by simpa using hqi
        unfold projOne
        by_cases h5 : f.kind = 5
        · rw [if_pos h5]
          obtain ⟨a, b, c⟩ := k1 h5
          exact fits_proj hgw hgr hS a b c (k2 j q.2 (by rw [← hqi']; exact hz.1) hz.2 h5)
        · rw [if_neg h5]
          intro x hx; cases hx
    · split at hp
      · rw [List.mem_singleton] at hp
        subst hp
        exact least_fits hgr hu hg (by omega)
      · cases hp
theorem projV_fits {ws rs : BookM} {name : ByteArray} {K : Nat} {v : ValueM} (h : namedE ws rs name = 0) (hf : allFlaws ws rs name = []) (hfit : Fits K v) (ht : typedM ws name K v = 0) : Fits (K + 5) (projV ws rs name K v) ∧ Fits 29 (projV ws rs name K v) := by
  obtain ⟨g1, g2, a, b, _, _⟩ := named_ok h
  obtain ⟨S, hS, hs⟩ := noflaw_of h hf
  obtain ⟨_, _, _, t4⟩ := typed_out hfit ht
  rw [(named_msg h).2.1] at t4
  exact ⟨fits_proj g1 g2 hS a b hs t4, (read_typed g2 b (projV_read h hf hfit ht)).fits g2 b⟩
theorem projA_small {ws rs : BookM} {name : ByteArray} {K : Nat} {v : ValueM} (h : namedE ws rs name = 0) (hf : allFlaws ws rs name = []) (hfit : Fits K v) (ht : typedM ws name K v = 0) : SmallV (K + 5) (projA ws rs name K v) := by
  unfold projA
  split
  · obtain ⟨g1, g2, a, b, _, _⟩ := named_ok h
    exact TypedP.small g2 b (read_typed g2 b (projV_read h hf hfit ht)) (projV_fits h hf hfit ht).1 (projV_small h hf hfit ht _)
  · exact ⟨by decide, by simp [ValueM.zero], by simp [ValueM.zero], fun x hx => by simp [ValueM.zero] at hx⟩
/-- What the reader's Decode answers of the writer's bytes is what Project answers, where there is no flaw. -/
theorem proj_dec {ws rs : BookM} {name : ByteArray} {K : Nat} {v : ValueM} (h : namedE ws rs name = 0) (hf : allFlaws ws rs name = []) (hfit : Fits K v) (ht : typedM ws name K v = 0) (hpf : Fits (K + 5) (projV ws rs name K v)) (hd : Fits 29 (projV ws rs name K v)) :
    decA rs name (encA ws name K v) = (projE ws rs name K v, projA ws rs name K v) ∧ (projE ws rs name K v = 0 ∨ projE ws rs name K v = 7) := by
  obtain ⟨_, _, q1, q2⟩ := named_msg h
  have hr := projV_read h hf hfit ht
  have hlg : largeB 29 (projV ws rs name K v) = largeB (K + 5) (projV ws rs name K v) := by
    unfold largeB
    rw [dep_eq hd hpf, cnt_eq hd hpf]
  have he : encA ws name K v = ⟨(encV K v).toArray⟩ := if_pos ht
  have hE : projE ws rs name K v = if largeB (K + 5) (projV ws rs name K v) = true then 7 else 0 := by
    unfold projE
    rw [if_neg (by simp [h]), if_neg (by simp [ht]), if_neg (by simp [hf])]
  unfold decA projA
  rw [he, q1, q2, hr, hE]
  simp only [hlg]
  cases largeB (K + 5) (projV ws rs name K v) <;> simp
end Go.Proofs.YtnppgeiompimaaaGreatDoor

namespace Go.Proofs.YtnppgeiompimaaaGreatDoor
set_option linter.unusedSimpArgs false
set_option linter.unusedVariables false
open Go.RowKit

set_option maxHeartbeats 12800000 in
set_option maxRecDepth 10000 in
theorem compatReads_calls (s1 s2 : SV) (ws rs : BookM) (name : ByteArray) (Kh : Nat) (v : ValueM) (ids l : SV) (w : World) (h1 : BookAt w s1 ws) (h2 : BookAt w s2 rs) (hw : WordsAt w) (n1 : ws.Fits) (n2 : rs.Fits)
    (hsv : SmallV Kh v) (hc : cntM Kh v ≤ 1048576) (hv : ValueAt Kh w [.int .i64 v.kind, .int .i64 v.n, .string v.s, .slice ids.a ids.len ids.cap, .slice l.a l.len l.cap] v) :
    Calls Tryz.prog 5 #[.agg #[.slice s1.a s1.len s1.cap], .agg #[.slice s2.a s2.len s2.cap], .string name, .agg #[.int .i64 v.kind, .int .i64 v.n, .string v.s, .slice ids.a ids.len ids.cap, .slice l.a l.len l.cap]] w fun e w' => e = .returned (.bool true) ∧ Ext w w' := by
  obtain ⟨W, hW⟩ : ∃ W, W = ((w.alloc (.cells #[.slice s1.a s1.len s1.cap] 24)).alloc (.cells #[.slice s2.a s2.len s2.cap] 24)).alloc (.cells #[.int .i64 v.kind, .int .i64 v.n, .string v.s, .slice ids.a ids.len ids.cap, .slice l.a l.len l.cap] 37) := ⟨_, rfl⟩
  obtain ⟨hxW, hzW, r0, r1, r2⟩ := heaps3c hW
  have HFl := fun w' (hx : Ext w w') => flawsAll_any s1 s2 ws rs name w' (h1.ext hx) (h2.ext hx) (hw.ext hx) n1 n2
  have HEn := fun w' (hx : Ext w w') => encode_value s1 ws name Kh v ids l w' (h1.ext hx) (hw.ext hx) n1 hsv hc (hv.ext hx)
  have HFi := fun w' (hx : Ext w w') => finds_ok w' (hw.ext hx)
  have HPr := fun w' (hx : Ext w w') => projectP_any s1 s2 ws rs name Kh v ids l w' (h1.ext hx) (h2.ext hx) (hw.ext hx) n1 n2 hsv hc (hv.ext hx)
  have HDe := fun (he : (encA ws name Kh v).size ≤ 9223372036854775807) w' (hx : Ext w w') => decode_value s2 rs name (encA ws name Kh v) w' (h2.ext hx) (hw.ext hx) n2 he
  have HFN := fun (he : namedE ws rs name = 0) l (h : FlawsOk ws rs name l) => flaws_none h he
  have HPD := fun (h : namedE ws rs name = 0) (ht : typedM ws name Kh v = 0) (hf : allFlaws ws rs name = []) => (show (decA rs name (encA ws name Kh v) = (projE ws rs name Kh v, projA ws rs name Kh v) ∧ (projE ws rs name Kh v = 0 ∨ projE ws rs name Kh v = 7)) ∧ SmallV (Kh + 5) (projA ws rs name Kh v) ∧ (encA ws name Kh v).size ≤ 20000 from ⟨proj_dec h hf hv.fits ht (projV_fits h hf hv.fits ht).1 (projV_fits h hf hv.fits ht).2, projA_small h hf hv.fits ht, (decA_enc hv.fits ht).2⟩)
  generalize encA ws name Kh v = s at *
  generalize projE ws rs name Kh v = PE at *
  generalize projA ws rs name Kh v = PA at *
  generalize decA rs name s = D at *
  generalize FlawsOk ws rs name = FO at *
  generalize allFlaws ws rs name = AF at *
  generalize typedM ws name Kh v = tE at *
  generalize namedE ws rs name = nE at *
  have HFl := hide HFl
  have HEn := hide HEn
  have HFi := hide HFi
  have HPr := hide HPr
  have HDe := hide HDe
  have HFN := hide HFN
  have HPD := hide HPD
  have HW := hide hW
  clear hW h1 h2 hw n1 n2 hsv hc hv
  obtain ⟨a0, _⟩ := row1 r0
  obtain ⟨a1, _⟩ := row1 r1
  go_enter Tryz.func5, Tryz.ntmps5
  go_wp2_with fail
  rw [← unhide HW]
  refine (unhide HFl W hxW).mono ?_
  rintro e w1 ⟨sf, lf, rfl, hfo, hof, x1⟩
  have hnil0 := fun he => unhide HFN he lf hfo
  have hsl : sf.len = (compM lf).length := by
    rcases hof.2 with ⟨e, h0⟩ | ⟨g, cap, cur, e, _⟩
    · simp only [Value.slice.injEq] at e; omega
    · simp only [Value.slice.injEq] at e; exact e.2.1
  obtain ⟨sfa, sfl, sfc⟩ := sf
  simp only at hsl
  rw [← hsl] at hnil0
  have hnil := hide hnil0
  clear hof hfo a0 a1 hnil0 hsl
  obtain ⟨a0, _⟩ := row1 (x1.heap r0)
  obtain ⟨v0, v1, v2, v3, v4, _⟩ := rowN5 (x1.heap r2)
  have f1 := hxW.trans x1
  go_wp2_with fail
  refine (unhide HEn w1 f1).mono ?_
  rintro e w2 ⟨rfl, x2⟩
  have x12 := x1.trans x2
  have f2 := f1.trans x2
  clear a0 v0 v1 v2 v3 v4
  by_cases hbad : nE = 0 ∧ tE = 0 ∧ sfl = 0
  · obtain ⟨hn, ht, hc0⟩ := hbad
    subst hn ht
    have hAF := (unhide hnil (by trivial)).1 hc0
    obtain ⟨⟨hD, h07⟩, hsm, hse⟩ := unhide HPD (by trivial) (by trivial) hAF
    subst hc0
    subst hD
    have hPr := unhide HPr
    have HSm := hide hsm
    have H07 := hide h07
    have hDe := unhide HDe (by omega)
    simp only at hDe
    have HDe2 := hide hDe
    clear hDe hsm hAF hPr hnil HFN HPD HFl HEn h07
    have hF2 := hide (unhide HFi w2 f2)
    go_wp2_with fail
    refine (unhide hF2).mono ?_
    rintro e w3 ⟨rfl, x3⟩
    have f3 := f2.trans x3
    have x13 := x12.trans x3
    obtain ⟨a0, _⟩ := row1 (x13.heap r0)
    obtain ⟨a1, _⟩ := row1 (x13.heap r1)
    obtain ⟨v0, v1, v2, v3, v4, _⟩ := rowN5 (x13.heap r2)
    have hP3 := hide (unhide HPr w3 f3)
    go_wp2_with fail
    refine (unhide hP3).mono ?_
    rintro e w4 ⟨pi, pl, rfl, hpv, x4⟩
    have f4 := f3.trans x4
    obtain ⟨W5, hW5⟩ : ∃ W5, W5 = w4.alloc (.cells #[.int .i64 PA.kind, .int .i64 PA.n, .string PA.s, .slice pi.a pi.len pi.cap, .slice pl.a pl.len pl.cap] 37) := ⟨_, rfl⟩
    have x5 : Ext w4 W5 := by rw [hW5]; exact (Ext.refl w4).alloc _
    have r5 : W5.heap[w4.heap.size]? = some (.cells #[.int .i64 PA.kind, .int .i64 PA.n, .string PA.s, .slice pi.a pi.len pi.cap, .slice pl.a pl.len pl.cap] 37 (0, 0)) := by rw [hW5]; exact heap_alloc_new w4 _
    have hD5 := hide (unhide HDe2 W5 (f4.trans x5))
    clear a0 a1 v0 v1 v2 v3 v4
    obtain ⟨a1, _⟩ := row1 ((x13.trans x4).heap r1)
    have za1 := lt_of_heap ((x13.trans x4).heap r1)
    have HW5 := hide hW5
    have Hpv := hide hpv
    clear hW5 hpv
    go_wp2_with fail
    rw [← unhide HW5]
    refine (unhide hD5).mono ?_
    rintro e w6 ⟨di, dl, rfl, hdv, x6⟩
    obtain ⟨W7, hW7⟩ : ∃ W7, W7 = w6.alloc (.cells #[.int .i64 PA.kind, .int .i64 PA.n, .string PA.s, .slice di.a di.len di.cap, .slice dl.a dl.len dl.cap] 37) := ⟨_, rfl⟩
    have x7 : Ext w6 W7 := by rw [hW7]; exact (Ext.refl w6).alloc _
    have r7 : W7.heap[w6.heap.size]? = some (.cells #[.int .i64 PA.kind, .int .i64 PA.n, .string PA.s, .slice di.a di.len di.cap, .slice dl.a dl.len dl.cap] 37 (0, 0)) := by rw [hW7]; exact heap_alloc_new w6 _
    have hS := sameValue_true (Kh + 5) 29 PA pi pl di dl W7 (unhide HSm) ((unhide Hpv).ext ((x5.trans x6).trans x7)) (hdv.at_.ext x7)
    have HS := hide hS
    have HW7 := hide hW7
    have f7 := ((f4.trans x5).trans x6).trans x7
    obtain ⟨o0, o1, o2, o3, o4, _⟩ := rowN5 (x6.heap r5)
    have zo := lt_of_heap (x6.heap r5)
    clear hW7 hS hdv a1 za1
    refine (unhide H07).elim (fun hq => ?_) (fun hq => ?_)
    · subst hq
      go_wp2_with fail
      rw [← unhide HW7]
      refine (unhide HS).mono ?_
      rintro e w8 ⟨rfl, x8⟩
      go_wp2
      go_ret
      exact ⟨rfl, f7.trans x8⟩
    · subst hq
      go_wp2_with fail
      rw [← unhide HW7]
      refine (unhide HS).mono ?_
      rintro e w8 ⟨rfl, x8⟩
      go_wp2
      go_ret
      exact ⟨rfl, f7.trans x8⟩
  · have hF2 := hide (unhide HFi w2 f2)
    clear hnil HFN HPD HFl HEn HPr HDe
    by_cases hn : nE = 0
    · by_cases ht : tE = 0
      · have hl0 : sfl ≠ 0 := fun e => hbad ⟨hn, ht, e⟩
        have hlc : (0 : Int) < (sfl : Int) := by omega
        have hlp : 0 < sfl := by omega
        subst hn ht
        clear hbad
        go_wp2_with fail
        refine (unhide hF2).mono ?_
        rintro e w3 ⟨rfl, x3⟩
        go_wp2
        go_ret
        exact ⟨rfl, f2.trans x3⟩
      · have htb : (tE != 0) = true := by simpa using ht
        subst hn
        clear hbad ht
        go_wp2_with fail
        refine (unhide hF2).mono ?_
        rintro e w3 ⟨rfl, x3⟩
        go_wp2
        go_ret
        exact ⟨rfl, f2.trans x3⟩
    · have hnb : (nE != 0) = true := by simpa using hn
      clear hbad hn
      go_wp2_with fail
      refine (unhide hF2).mono ?_
      rintro e w3 ⟨rfl, x3⟩
      go_wp2
      go_ret
      exact ⟨rfl, f2.trans x3⟩
end Go.Proofs.YtnppgeiompimaaaGreatDoor

