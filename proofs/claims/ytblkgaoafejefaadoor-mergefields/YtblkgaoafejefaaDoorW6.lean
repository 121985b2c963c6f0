import Derived.Test.YtblkgaoafejefaaDoorW5
namespace Go.Proofs.YtblkgaoafejefaaDoor
set_option linter.unusedSimpArgs false
set_option linter.unusedVariables false
open Go.RowKit

def idsApartAt (ids gone : List Int) (i : Nat) : Bool := !gone.contains (ids.getD i 0)
def goodIdsL (ids gone : List Int) : Bool := risingL ids 1 30 && risingL gone 1 30 && (List.range ids.length).all (idsApartAt ids gone)

set_option maxHeartbeats 800000 in
theorem goodIds_any (s g : SV) (ids gone : List Int) (w : World) (hs : IntsAt w s ids) (hg : IntsAt w g gone) (hn : ids.length ≤ 9223372036854775807) (hm : gone.length ≤ 9223372036854775807) :
    Calls Tryd.prog 56 #[.slice s.a s.len s.cap, .slice g.a g.len g.cap] w fun e w' => e = .returned (.bool (goodIdsL ids gone)) ∧ Ext w w' := by
  obtain ⟨a, n, cap⟩ := s
  have hl := hs.1
  simp only at hl
  subst hl
  show Calls Tryd.prog 56 #[.slice a ids.length cap, .slice g.a g.len g.cap] w _
  cases h1 : risingL ids 1 30
  · have e : goodIdsL ids gone = false := by unfold goodIdsL; rw [h1]; rfl
    have H1 : Hid (risingL ids 1 30 = false) := h1
    rw [e]
    clear h1 e
    go_enter Tryd.func56, Tryd.ntmps56
    go_wp2_with fail
    refine (rising_any ⟨a, ids.length, cap⟩ ids 1 30 w hs hn).mono ?_
    rintro e w1 ⟨rfl, hx⟩
    rw [H1.out]
    go_wp2
    go_ret
    exact ⟨rfl, hx⟩
  cases h2 : risingL gone 1 30
  · have e : goodIdsL ids gone = false := by unfold goodIdsL; rw [h1, h2]; rfl
    have H1 : Hid (risingL ids 1 30 = true) := h1
    have H2 : Hid (risingL gone 1 30 = false) := h2
    rw [e]
    clear h1 h2 e
    go_enter Tryd.func56, Tryd.ntmps56
    go_wp2_with fail
    refine (rising_any ⟨a, ids.length, cap⟩ ids 1 30 w hs hn).mono ?_
    rintro e w1 ⟨rfl, hx⟩
    rw [H1.out]
    go_wp2_with fail
    refine (rising_any g gone 1 30 w1 (hg.ext hx) hm).mono ?_
    rintro e w2 ⟨rfl, hx2⟩
    rw [H2.out]
    go_wp2
    go_ret
    exact ⟨rfl, hx.trans hx2⟩
  have H1 : Hid (risingL ids 1 30 = true) := h1
  have H2 : Hid (risingL gone 1 30 = true) := h2
  have E : Hid (goodIdsL ids gone = (List.range ids.length).all (idsApartAt ids gone)) := by unfold Hid goodIdsL; rw [h1, h2]; rfl
  clear h1 h2
  go_enter Tryd.func56, Tryd.ntmps56
  go_wp2_with fail
  refine (rising_any ⟨a, ids.length, cap⟩ ids 1 30 w hs hn).mono ?_
  rintro e w1 ⟨rfl, hx⟩
  rw [H1.out]
  go_wp2_with fail
  refine (rising_any g gone 1 30 w1 (hg.ext hx) hm).mono ?_
  rintro e w2 ⟨rfl, hx2⟩
  rw [H2.out]
  go_wp2
  go_loopw [17] (fun i wr => ∃ k : Nat, k ≤ ids.length ∧ i = .int .i64 k ∧ AllTo (idsApartAt ids gone) k ∧ Ext w wr) (fun i wr => ids.length - (intOf i).toNat)
  case atStart => exact ⟨0, by omega, rfl, AllTo.zero _, hx.trans hx2⟩
  case round =>
    obtain ⟨k, hk, rfl, hne, hxr⟩ := hrel
    by_cases hlt : k < ids.length
    · obtain ⟨b, o, rfl, h0⟩ := hs.cell hlt
      replace h0 := hxr.cell h0
      have hgr := hg.ext hxr
      have hkk : ids.getD k 0 = ids[k] := by simp [List.getD, hlt]
      cases hct : gone.contains ids[k]
      · have e : idsApartAt ids gone k = true := by unfold idsApartAt; rw [hkk, hct]; rfl
        have Hc : Hid (gone.contains ids[k] = false) := hct
        clear hct hkk
        go_wp2_with (go_at_call 68; refine (containsInt_any g gone ids[k] _ hgr hm).mono ?_; rintro e w' ⟨rfl, rfl⟩; rw [Hc.out])
        exact ⟨⟨k + 1, by omega, by go_num, hne.succ e, hxr⟩, by simp [intOf]; omega⟩
      · have e : idsApartAt ids gone k = false := by unfold idsApartAt; rw [hkk, hct]; rfl
        have Hc : Hid (gone.contains ids[k] = true) := hct
        clear hct hkk
        go_wp2_with (go_at_call 68; refine (containsInt_any g gone ids[k] _ hgr hm).mono ?_; rintro e w' ⟨rfl, rfl⟩; rw [Hc.out])
        go_ret
        exact ⟨by rw [E.out, not_all_range hlt e]; rfl, hxr⟩
    · go_wp2
      go_ret
      exact ⟨by rw [E.out, AllTo.all hne (by omega)]; rfl, hxr⟩

theorem ret_bool {a b : Bool} (h : a = b) : Ending.returned (.bool a) = .returned (.bool b) := by rw [h]
theorem ret_int {k : IntKind} {a b : Int} (h : a = b) : Ending.returned (.int k a) = .returned (.int k b) := by rw [h]

def goodFieldM (b : BookM) (f : FieldM) : Bool :=
  if f.rule < 1 ∨ 3 < f.rule then false
  else if f.kind = 1 ∨ f.kind = 2 ∨ f.kind = 3 then f.type.toList.isEmpty
  else if f.kind = 4 ∨ f.kind = 5 then (match findM b f.type with | some t => t.enum == (f.kind == 4) | none => false)
  else false

set_option maxHeartbeats 800000 in
theorem goodField_any (s : SV) (ts : BookM) (f : FieldM) (w : World) (hs : BookAt w s ts) (hn : ts.length ≤ 9223372036854775807) :
    Calls Tryd.prog 55 #[.agg #[.slice s.a s.len s.cap], .agg #[.int .i64 f.id, .string f.name, .string f.type, .int .i64 f.kind, .int .i64 f.rule]] w fun e w' => e = .returned (.bool (goodFieldM ts f)) ∧ Ext w w' := by
  obtain ⟨fid, fname, ftype, fkind, frule⟩ := f
  show Calls Tryd.prog 55 #[.agg #[.slice s.a s.len s.cap], .agg #[.int .i64 fid, .string fname, .string ftype, .int .i64 fkind, .int .i64 frule]] w _
  by_cases h1 : frule < 1
  · have e : goodFieldM ts ⟨fid, fname, ftype, fkind, frule⟩ = false := by simp [goodFieldM, h1]
    rw [e]; clear e
    go_enter Tryd.func55, Tryd.ntmps55
    go_wp2
    go_ret
    exact ⟨rfl, ((Ext.refl w).alloc _).alloc _⟩
  by_cases h2 : 3 < frule
  · have e : goodFieldM ts ⟨fid, fname, ftype, fkind, frule⟩ = false := by simp [goodFieldM, h2]
    rw [e]; clear e
    go_enter Tryd.func55, Tryd.ntmps55
    go_wp2
    go_ret
    exact ⟨rfl, ((Ext.refl w).alloc _).alloc _⟩
  have hr : ¬ (frule < 1 ∨ 3 < frule) := by omega
  by_cases h3 : fkind = 1 ∨ fkind = 2 ∨ fkind = 3
  · have E : Hid (goodFieldM ts ⟨fid, fname, ftype, fkind, frule⟩ = (ftype.toList.isEmpty)) := by unfold Hid goodFieldM; simp only; rw [if_neg hr, if_pos h3]
    clear hr
    rcases h3 with h3 | h3 | h3
    all_goals
      subst h3
      go_enter Tryd.func55, Tryd.ntmps55
      go_wp2
      go_ret
      exact ⟨by rw [E.out]; rfl, ((Ext.refl w).alloc _).alloc _⟩
  by_cases h4 : fkind = 4 ∨ fkind = 5
  · have E : Hid (goodFieldM ts ⟨fid, fname, ftype, fkind, frule⟩ = (match findM ts ftype with | some t => t.enum == (fkind == 4) | none => false)) := by unfold Hid goodFieldM; simp only; rw [if_neg hr, if_neg h3, if_pos h4]
    clear hr h3
    have hs1 := hs.ext (((Ext.refl w).alloc (.cells #[.slice s.a s.len s.cap] 24)).alloc (.cells #[.int .i64 fid, .string fname, .string ftype, .int .i64 fkind, .int .i64 frule] 36))
    rcases h4 with h4 | h4
    all_goals
      subst h4
      go_enter Tryd.func55, Tryd.ntmps55
      go_wp2_with fail
      refine (lookUp_any s ts ftype _ hs1 hn).mono ?_
      rintro e w1 ⟨tv, rfl, htv, hx⟩
      have q3 := (hx.whole (heap_alloc2_new _ _ _)).1 3 _ rfl
      have hz : w.heap.size + 1 < w1.heap.size := by have := hx.size; simp at this; omega
      have hE : Ext w w1 := (((Ext.refl w).alloc _).alloc _).trans hx
      have hen := htv.enum
      cases hf : findM ts ftype with
      | none =>
        rw [hf] at hen
        have E' : Hid (goodFieldM ts _ = false) := E.out.trans (by rw [hf])
        clear hen htv E
        simp only [Option.isSome_none]
        go_wp2
        go_ret
        exact ⟨ret_bool (E'.out.trans (by cases tv.enum <;> rfl)).symm, hE.alloc _⟩
      | some t =>
        rw [hf] at hen
        simp only [Option.getD_some] at hen
        have E' : Hid (goodFieldM ts _ = (tv.enum == _)) := E.out.trans (by rw [hf, hen])
        clear hen htv E
        simp only [Option.isSome_some]
        go_wp2
        go_ret
        exact ⟨ret_bool (E'.out.trans (by cases tv.enum <;> rfl)).symm, hE.alloc _⟩
  · have e : goodFieldM ts ⟨fid, fname, ftype, fkind, frule⟩ = false := by unfold goodFieldM; simp only; rw [if_neg hr, if_neg h3, if_neg h4]
    rw [e]; clear e hr
    have k1 : (fkind == 1) = false := by simp; omega
    have k2 : (fkind == 2) = false := by simp; omega
    have k3 : (fkind == 3) = false := by simp; omega
    have k4 : (fkind == 4) = false := by simp; omega
    have k5 : (fkind == 5) = false := by simp; omega
    clear h3 h4
    go_enter Tryd.func55, Tryd.ntmps55
    go_wp2
    go_ret
    exact ⟨rfl, ((Ext.refl w).alloc _).alloc _⟩
end Go.Proofs.YtblkgaoafejefaaDoor
