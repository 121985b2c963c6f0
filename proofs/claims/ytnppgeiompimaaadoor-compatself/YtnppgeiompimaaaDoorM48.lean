import Derived.Test.YtnppgeiompimaaaDoorM47
namespace Go.Proofs.YtnppgeiompimaaaDoor
set_option linter.unusedSimpArgs false
set_option linter.unusedVariables false
set_option linter.unusedSimpArgs false
set_option linter.unusedVariables false
open Go.RowKit

theorem fits_proj {ws rs : BookM} (hgw : goodM ws = 0) (hgr : goodM rs = 0) {S : TypeM → TypeM → Prop} (hS : NoFlaw ws rs S) : ∀ {K : Nat} {t u : TypeM} {v : ValueM}, Msg ws t → Msg rs u → S t u → TypedP ws K t v → Fits (K + 5) (projM ws rs K t u v)
  | 0, _, _, _, _, _, _, h => h.elim
  | K + 1, t, u, v, ht, hu, hst, hty => by
    show ∀ x ∈ (projL ws rs (projM ws rs K) t v u.fields).map (·.2), Fits (K + 5) x
    intro x hx
    obtain ⟨p, hp, rfl⟩ := List.mem_map.1 hx
    unfold projL at hp
    obtain ⟨g, hg, hp⟩ := List.mem_flatMap.1 hp
    unfold pieceM at hp
    rcases List.mem_append.1 hp with hp | hp
    · obtain ⟨y, hy, rfl⟩ := List.mem_map.1 hp
      simp only
      unfold projField at hy
      cases hf : fieldM t g.id with
      | none => rw [hf] at hy; cases hy
      | some f =>
        rw [hf] at hy
        obtain ⟨q, hq, rfl⟩ := List.mem_map.1 hy
        obtain ⟨k1, k2⟩ := known_of (Kh := K) hgw hgr hS ht hu hst (hu.find hgr hg) hf hty
        obtain ⟨hqm, hqi⟩ := List.mem_filter.1 hq
        obtain ⟨j, hj, e⟩ := List.getElem_of_mem hqm
        have hz : (v.ids.zip v.l)[j]? = some q := by rw [← e]; exact List.getElem?_eq_getElem hj
        rw [List.getElem?_zip_eq_some] at hz
        have hqi' : q.1 = g.id := by simpa using hqi
        unfold projOne
        by_cases h5 : f.kind = 5
        · rw [if_pos h5]
          obtain ⟨a, b, c⟩ := k1 h5
          exact fits_proj hgw hgr hS a b c (k2 j q.2 (by rw [← hqi']; exact hz.1) hz.2 h5)
        · rw [if_neg h5]
          intro x hx; cases hx
    · split at hp
      · rw [List.mem_singleton] at hp
        subst hp
        exact least_fits hgr hu hg (by omega)
      · cases hp
theorem projV_fits {ws rs : BookM} {name : ByteArray} {K : Nat} {v : ValueM} (h : namedE ws rs name = 0) (hf : allFlaws ws rs name = []) (hfit : Fits K v) (ht : typedM ws name K v = 0) : Fits (K + 5) (projV ws rs name K v) ∧ Fits 29 (projV ws rs name K v) := by
  obtain ⟨g1, g2, a, b, _, _⟩ := named_ok h
  obtain ⟨S, hS, hs⟩ := noflaw_of h hf
  obtain ⟨_, _, _, t4⟩ := typed_out hfit ht
  rw [(named_msg h).2.1] at t4
  exact ⟨fits_proj g1 g2 hS a b hs t4, (read_typed g2 b (projV_read h hf hfit ht)).fits g2 b⟩
theorem projA_small {ws rs : BookM} {name : ByteArray} {K : Nat} {v : ValueM} (h : namedE ws rs name = 0) (hf : allFlaws ws rs name = []) (hfit : Fits K v) (ht : typedM ws name K v = 0) : SmallV (K + 5) (projA ws rs name K v) := by
  unfold projA
  split
  · obtain ⟨g1, g2, a, b, _, _⟩ := named_ok h
    exact TypedP.small g2 b (read_typed g2 b (projV_read h hf hfit ht)) (projV_fits h hf hfit ht).1 (projV_small h hf hfit ht _)
  · exact ⟨by decide, by simp [ValueM.zero], by simp [ValueM.zero], fun x hx => by simp [ValueM.zero] at hx⟩
/-- What the reader's Decode answers of the writer's bytes is what Project answers, where there is no flaw. -/
theorem proj_dec {ws rs : BookM} {name : ByteArray} {K : Nat} {v : ValueM} (h : namedE ws rs name = 0) (hf : allFlaws ws rs name = []) (hfit : Fits K v) (ht : typedM ws name K v = 0) (hpf : Fits (K + 5) (projV ws rs name K v)) (hd : Fits 29 (projV ws rs name K v)) :
    decA rs name (encA ws name K v) = (projE ws rs name K v, projA ws rs name K v) ∧ (projE ws rs name K v = 0 ∨ projE ws rs name K v = 7) := by
  obtain ⟨_, _, q1, q2⟩ := named_msg h
  have hr := projV_read h hf hfit ht
  have hlg : largeB 29 (projV ws rs name K v) = largeB (K + 5) (projV ws rs name K v) := by
    unfold largeB
    rw [dep_eq hd hpf, cnt_eq hd hpf]
  have he : encA ws name K v = ⟨(encV K v).toArray⟩ := if_pos ht
  have hE : projE ws rs name K v = if largeB (K + 5) (projV ws rs name K v) = true then 7 else 0 := by
    unfold projE
    rw [if_neg (by simp [h]), if_neg (by simp [ht]), if_neg (by simp [hf])]
  unfold decA projA
  rw [he, q1, q2, hr, hE]
  simp only [hlg]
  cases largeB (K + 5) (projV ws rs name K v) <;> simp
end Go.Proofs.YtnppgeiompimaaaDoor

namespace Go.Proofs.YtnppgeiompimaaaDoor
set_option linter.unusedSimpArgs false
set_option linter.unusedVariables false
open Go.RowKit

theorem named_self {b : BookM} {name : ByteArray} : namedB b b name = namedA b b name := rfl
theorem flaws_selfA {b : BookM} {name : ByteArray} (h : namedE b b name = 0) : allFlaws b b name = [] := by
  obtain ⟨g1, _, ma, _, _, _⟩ := named_ok h
  unfold allFlaws
  rw [List.flatMap_eq_nil_iff]
  exact flaws_self g1 ma
theorem found_self {b : BookM} {name : ByteArray} {l : List FlawM} (h : FlawsOk b b name l) : (compM l).length = 0 := by
  by_cases he : namedE b b name = 0
  · exact (flaws_none h he).2 (flaws_selfA he)
  · rw [h.1 he]; rfl
theorem proj_self {b : BookM} {name : ByteArray} {K : Nat} {v : ValueM} (hf : Fits K v) (h : projE b b name K v = 0) : projA b b name K v = v := by
  have e : projA b b name K v = projV b b name K v := by unfold projA; rw [if_pos h]
  rw [e]
  unfold projE at h
  by_cases hn : namedE b b name = 0
  · rw [if_neg (by simp [hn])] at h
    by_cases ht : typedM b name K v = 0
    · have hr := projV_read hn (flaws_selfA hn) hf ht
      obtain ⟨g1, _, ma, _, _, _⟩ := named_ok hn
      obtain ⟨_, t2, t3, t4⟩ := typed_out hf ht
      rw [(named_msg hn).2.1] at t4
      have hs := read_enc g1 (k := 23) ma hf t4 t3 (by omega)
      rw [named_self, hs] at hr
      exact (Prod.mk.inj hr).2.symm
    · rw [if_pos ht] at h; exact absurd h ht
  · rw [if_pos hn] at h; exact absurd h hn
set_option maxHeartbeats 12800000 in
set_option maxRecDepth 10000 in
theorem compatSelf_calls (s1 : SV) (ws : BookM) (name : ByteArray) (Kh : Nat) (v : ValueM) (ids l : SV) (w : World) (h1 : BookAt w s1 ws) (hw : WordsAt w) (n1 : ws.Fits) (hsv : SmallV Kh v) (hc : cntM Kh v ≤ 1048576) (hv : ValueAt Kh w [.int .i64 v.kind, .int .i64 v.n, .string v.s, .slice ids.a ids.len ids.cap, .slice l.a l.len l.cap] v) :
    Calls Tryd.prog 3 #[.agg #[.slice s1.a s1.len s1.cap], .string name, .agg #[.int .i64 v.kind, .int .i64 v.n, .string v.s, .slice ids.a ids.len ids.cap, .slice l.a l.len l.cap]] w fun e w' => e = .returned (.bool true) ∧ Ext w w' := by
  obtain ⟨W, hW⟩ : ∃ W, W = (w.alloc (.cells #[.slice s1.a s1.len s1.cap] 24)).alloc (.cells #[.int .i64 v.kind, .int .i64 v.n, .string v.s, .slice ids.a ids.len ids.cap, .slice l.a l.len l.cap] 28) := ⟨_, rfl⟩
  obtain ⟨hxW, hzW, r0, r2⟩ := heaps2 hW
  have HFl := fun w' (hx : Ext w w') => flawsAll_any s1 s1 ws ws name w' (h1.ext hx) (h1.ext hx) (hw.ext hx) n1 n1
  have HFi := fun w' (hx : Ext w w') => finds_ok w' (hw.ext hx)
  have HPr := fun w' (hx : Ext w w') => projectP_any s1 s1 ws ws name Kh v ids l w' (h1.ext hx) (h1.ext hx) (hw.ext hx) n1 n1 hsv hc (hv.ext hx)
  have HFN := fun l (h : FlawsOk ws ws name l) => found_self h
  have HPS := fun (h : projE ws ws name Kh v = 0) => proj_self hv.fits h
  have HSv := fun (a b c d : SV) w' x y => sameValue_true Kh (Kh + 5) v a b c d w' hsv x y
  generalize projE ws ws name Kh v = PE at *
  generalize projA ws ws name Kh v = PA at *
  generalize FlawsOk ws ws name = FO at *
  generalize namedE ws ws name = nE at *
  have HFl := hide HFl
  have HFi := hide HFi
  have HPr := hide HPr
  have HFN := hide HFN
  have HPS := hide HPS
  have HSv := hide HSv
  have HW := hide hW
  have Hv := hide hv
  clear hW h1 hw n1 hsv hc hv
  obtain ⟨a0, _⟩ := row1 r0
  go_enter Tryd.func3, Tryd.ntmps3
  go_wp2_with fail
  rw [← unhide HW]
  refine (unhide HFl W hxW).mono ?_
  rintro e w1 ⟨sf, lf, rfl, hfo, hof, x1⟩
  have hz := unhide HFN lf hfo
  have hsl : sf.len = (compM lf).length := by
    rcases hof.2 with ⟨e, h0⟩ | ⟨g, cap, cur, e, _⟩
    · simp only [Value.slice.injEq] at e; omega
    · simp only [Value.slice.injEq] at e; exact e.2.1
  obtain ⟨sfa, sfl, sfc⟩ := sf
  simp only at hsl
  rw [hz] at hsl
  subst hsl
  clear hof hfo a0 hz
  obtain ⟨a0, _⟩ := row1 (x1.heap r0)
  obtain ⟨v0, v1, v2, v3, v4, _⟩ := rowN5 (x1.heap r2)
  have f1 := hxW.trans x1
  go_wp2_with fail
  refine (unhide HPr w1 f1).mono ?_
  rintro e w2 ⟨pi, pl, rfl, hpv, x2⟩
  have f2 := f1.trans x2
  obtain ⟨W5, hW5⟩ : ∃ W5, W5 = w2.alloc (.cells #[.int .i64 PA.kind, .int .i64 PA.n, .string PA.s, .slice pi.a pi.len pi.cap, .slice pl.a pl.len pl.cap] 28) := ⟨_, rfl⟩
  have x5 : Ext w2 W5 := by rw [hW5]; exact (Ext.refl w2).alloc _
  have r5 : W5.heap[w2.heap.size]? = some (.cells #[.int .i64 PA.kind, .int .i64 PA.n, .string PA.s, .slice pi.a pi.len pi.cap, .slice pl.a pl.len pl.cap] 28 (0, 0)) := by rw [hW5]; exact heap_alloc_new w2 _
  have HW5 := hide hW5
  have f5 := f2.trans x5
  have hFi := hide (unhide HFi W5 f5)
  clear hW5 a0 v0 v1 v2 v3 v4
  by_cases hn : nE = 0
  · subst hn
    by_cases hp : PE = 0
    · subst hp
      have hPA := unhide HPS (by trivial)
      subst hPA
      have hS := fun w' (hx : Ext W5 w') => unhide HSv ids l pi pl w' ((unhide Hv).ext (f5.trans hx)) ((hpv.ext x5).ext hx)
      have HS := hide hS
      clear hS hpv
      go_wp2_with fail
      rw [← unhide HW5]
      refine (unhide hFi).mono ?_
      rintro e w6 ⟨rfl, x6⟩
      obtain ⟨v0, v1, v2, v3, v4, _⟩ := rowN5 ((((x1.trans x2).trans x5).trans x6).heap r2)
      obtain ⟨y0, y1, y2, y3, y4, _⟩ := rowN5 (x6.heap r5)
      go_wp2_with fail
      refine (unhide HS w6 x6).mono ?_
      rintro e w7 ⟨rfl, x7⟩
      go_wp2
      go_ret
      exact ⟨rfl, (f5.trans x6).trans x7⟩
    · have hpb : (PE != 0) = true := by simpa using hp
      clear hp hpv
      go_wp2_with fail
      rw [← unhide HW5]
      refine (unhide hFi).mono ?_
      rintro e w6 ⟨rfl, x6⟩
      go_wp2
      go_ret
      exact ⟨rfl, f5.trans x6⟩
  · have hnb : (nE != 0) = true := by simpa using hn
    clear hn hpv
    go_wp2_with fail
    rw [← unhide HW5]
    refine (unhide hFi).mono ?_
    rintro e w6 ⟨rfl, x6⟩
    go_wp2
    go_ret
    exact ⟨rfl, f5.trans x6⟩
end Go.Proofs.YtnppgeiompimaaaDoor

