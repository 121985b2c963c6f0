import Derived.Test.YtmdpdgldmedebaaGreatDoorM7
import Derived.Deep.QuietTactic
import Derived.BigQuiet
import Derived.OrdersHeld
namespace Go.Proofs.YtmdpdgldmedebaaGreatDoor
set_option linter.unusedSimpArgs false
set_option linter.unusedVariables false
set_option linter.unusedSimpArgs false
set_option linter.unusedVariables false
open Go.RowKit

/-- A value, with those in it. -/
structure ValueM where
  kind : Int
  n : Int
  s : ByteArray
  ids : List Int
  l : List ValueM
/-- A value's five cells tell v, whose height is at most the number. -/
def ValueAt : Nat → World → List Value → ValueM → Prop
  | 0, _, _, _ => False
  | k + 1, w, cs, v => ∃ ids l : SV, cs = [.int .i64 v.kind, .int .i64 v.n, .string v.s, .slice ids.a ids.len ids.cap, .slice l.a l.len l.cap] ∧ IntsAt w ids v.ids ∧ SliceAt 5 (ValueAt k) w l v.l ∧ ids.ok ∧ l.ok
theorem ValueAt.ext : ∀ {k : Nat} {w w' : World} {cs : List Value} {v : ValueM}, ValueAt k w cs v → Ext w w' → ValueAt k w' cs v
  | 0, _, _, _, _, h, _ => h
  | _ + 1, _, _, _, _, h, he => let ⟨i, l, h1, h2, h3, h4, h5⟩ := h
    ⟨i, l, h1, h2.ext he, SliceAt.ext h3 he (fun _ _ hx => ValueAt.ext hx he), h4, h5⟩
theorem ValueAt.mono : ∀ {k : Nat} {w : World} {cs : List Value} {v : ValueM}, ValueAt k w cs v → ValueAt (k + 1) w cs v
  | 0, _, _, _, h => h.elim
  | _ + 1, _, _, _, h => let ⟨i, l, h1, h2, h3, h4, h5⟩ := h
    ⟨i, l, h1, h2, ⟨h3.1, fun j x hx => let ⟨b, o, cs, a1, a2, a3⟩ := h3.2 j x hx; ⟨b, o, cs, a1, a2, ValueAt.mono a3⟩⟩, h4, h5⟩
theorem ValueAt.le {k m : Nat} {w : World} {cs : List Value} {v : ValueM} (h : ValueAt k w cs v) (hm : k ≤ m) : ValueAt m w cs v := by
  obtain ⟨d, rfl⟩ := Nat.exists_eq_add_of_le hm
  induction d with
  | zero => exact h
  | succ d ih => exact (ih (by omega)).mono

def kindN (k : Int) : Int := if k = 3 then 1 else if k = 5 then 2 else 0
set_option maxHeartbeats 400000 in
theorem kind_any (k : Int) (w : World) : Calls Tryz.prog 46 #[.int .i64 k] w fun e w' => e = .returned (.int .i64 (kindN k)) ∧ w' = w := by
  have E : Hid (kindN k = if k = 3 then 1 else if k = 5 then 2 else 0) := rfl
  by_cases h3 : k = 3
  · go_enter Tryz.func46, Tryz.ntmps46
    go_wp2
    go_ret
    exact ⟨ret_int (by rw [E.out, if_pos h3]), rfl⟩
  · by_cases h5 : k = 5
    · go_enter Tryz.func46, Tryz.ntmps46
      go_wp2
      go_ret
      exact ⟨ret_int (by rw [E.out, if_neg h3, if_pos h5]), rfl⟩
    · go_enter Tryz.func46, Tryz.ntmps46
      go_wp2
      go_ret
      exact ⟨ret_int (by rw [E.out, if_neg h3, if_neg h5]), rfl⟩

def oneKindB (kind n : Int) (s : ByteArray) (ni nl : Nat) : Bool := !(decide (kind ≠ 2) && (decide (0 < ni) || decide (0 < nl))) && !(decide (kind ≠ 0) && decide (n ≠ 0)) && (decide (kind = 1) || s.toList.isEmpty)
set_option maxHeartbeats 1600000 in
theorem ofOneKind_any (kind n : Int) (s : ByteArray) (ids l : SV) (w : World) (h1 : ids.len ≤ 9223372036854775807) (h2 : l.len ≤ 9223372036854775807) :
    Calls Tryz.prog 50 #[.agg #[.int .i64 kind, .int .i64 n, .string s, .slice ids.a ids.len ids.cap, .slice l.a l.len l.cap]] w fun e w' => e = .returned (.bool (oneKindB kind n s ids.len l.len)) ∧ Ext w w' := by
  have hx0 : Ext w (w.alloc (.cells #[.int .i64 kind, .int .i64 n, .string s, .slice ids.a ids.len ids.cap, .slice l.a l.len l.cap] 28)) := (Ext.refl w).alloc _
  have E : Hid (oneKindB kind n s ids.len l.len = (!(decide (kind ≠ 2) && (decide (0 < ids.len) || decide (0 < l.len))) && !(decide (kind ≠ 0) && decide (n ≠ 0)) && (decide (kind = 1) || s.toList.isEmpty))) := rfl
  go_enter Tryz.func50, Tryz.ntmps50
  go_wp2
  all_goals
    go_ret
    refine ⟨ret_bool ?_, (Ext.refl w).alloc _⟩
    rw [E.out]
    clear E
    simp_all
    try omega
end Go.Proofs.YtmdpdgldmedebaaGreatDoor

namespace Go.Proofs.YtmdpdgldmedebaaGreatDoor
set_option linter.unusedSimpArgs false
set_option linter.unusedVariables false
open Go.RowKit

def lowAt (l : List UInt8) (i : Nat) : Bool := decide ((l.getD i 0).toNat ≤ 127)
def goodTextB (s : ByteArray) : Bool := decide (s.size ≤ 40) && (List.range s.size).all (lowAt s.toList)
set_option maxHeartbeats 400000 in
theorem goodText_any (s : ByteArray) (w : World) (hs : s.size ≤ 9223372036854775807) : Calls Tryz.prog 74 #[.string s] w fun e w' => e = .returned (.bool (goodTextB s)) ∧ w' = w := by
  by_cases h40 : 40 < s.size
  · have E : Hid (goodTextB s = false) := by unfold Hid goodTextB; rw [show decide (s.size ≤ 40) = false by simp; omega]; rfl
    go_enter Tryz.func74, Tryz.ntmps74
    go_wp2
    go_ret
    exact ⟨ret_bool E.out.symm, rfl⟩
  have E : Hid (goodTextB s = (List.range s.size).all (lowAt s.toList)) := by unfold Hid goodTextB; rw [show decide (s.size ≤ 40) = true by simp; omega]; rfl
  go_enter Tryz.func74, Tryz.ntmps74
  go_wp2
  go_loopw [9] (fun i wr => ∃ k : Nat, k ≤ s.size ∧ i = .int .i64 k ∧ AllTo (lowAt s.toList) k ∧ wr = w) (fun i _ => s.size - (intOf i).toNat)
  case atStart => exact ⟨0, by omega, rfl, AllTo.zero _, rfl⟩
  case round =>
    obtain ⟨k, hk, rfl, hA, rfl⟩ := hrel
    by_cases hlt : k < s.size
    · have Hat : Hid (lowAt s.toList k = decide (s[k].toNat ≤ 127)) := by
        unfold Hid lowAt
        rw [show s.toList.getD k 0 = s[k] by rw [bytes_toList]; simp [List.getD, hlt]; rfl]
      by_cases hb : 127 < s[k].toNat
      · have Hb := hide hb
        go_wp2
        go_ret
        exact ⟨ret_bool (by rw [E.out, not_all_range hlt (Hat.out.trans (by simp; exact unhide Hb))]), rfl⟩
      · have Hb := hide hb
        go_wp2
        exact ⟨⟨k + 1, by omega, by go_num, hA.succ (Hat.out.trans (by have := unhide Hb; simp; omega)), trivial⟩, by simp [intOf]; omega⟩
    · go_wp2
      go_ret
      exact ⟨ret_bool (by rw [E.out, AllTo.all hA (by omega)]), rfl⟩

/-- What is wrong with a field behind those whose ids stand ahead of it. -/
def orderN (f : FieldM) (ahead : List Int) : Int := if ahead.length = 0 then 0 else if f.id < ahead.getD (ahead.length - 1) 0 then 1 else if ahead.getD (ahead.length - 1) 0 = f.id ∧ f.rule ≠ 3 then 4 else 0
set_option maxHeartbeats 800000 in
theorem wrongOrder_any (f : FieldM) (s : SV) (ahead : List Int) (w : World) (hs : IntsAt w s ahead) (hn : ahead.length ≤ 1048576) :
    Calls Tryz.prog 51 #[.agg #[.int .i64 f.id, .string f.name, .string f.type, .int .i64 f.kind, .int .i64 f.rule], .slice s.a s.len s.cap] w fun e w' => e = .returned (.int .i64 (orderN f ahead)) ∧ Ext w w' := by
  obtain ⟨a, n, cap⟩ := s
  obtain ⟨hl, hts⟩ := hs
  simp only at hl
  subst hl
  show Calls Tryz.prog 51 #[.agg #[.int .i64 f.id, .string f.name, .string f.type, .int .i64 f.kind, .int .i64 f.rule], .slice a ahead.length cap] w _
  by_cases h0 : ahead.length = 0
  · have E : Hid (orderN f ahead = 0) := by unfold Hid orderN; rw [if_pos h0]
    go_enter Tryz.func51, Tryz.ntmps51
    go_wp2
    go_ret
    exact ⟨ret_int E.out.symm, (Ext.refl w).alloc _⟩
  · obtain ⟨b, o, cs, ha, hr, rfl⟩ := hts (ahead.length - 1) ahead[ahead.length - 1] (by simp [show ahead.length - 1 < ahead.length by omega])
    simp only at ha
    subst ha
    have c0 : (w.alloc (.cells #[.int .i64 f.id, .string f.name, .string f.type, .int .i64 f.kind, .int .i64 f.rule] 56)).cell? ⟨b, o + (ahead.length - 1), none⟩ = some (.int .i64 ahead[ahead.length - 1]) := by
      have := range1 (((Ext.refl w).alloc (.cells #[.int .i64 f.id, .string f.name, .string f.type, .int .i64 f.kind, .int .i64 f.rule] 56)).range hr)
      rwa [Nat.mul_one] at this
    have hg : ahead.getD (ahead.length - 1) 0 = ahead[ahead.length - 1] := by simp [List.getD, show ahead.length - 1 < ahead.length by omega]
    have E : Hid (orderN f ahead = if f.id < ahead[ahead.length - 1] then 1 else if ahead[ahead.length - 1] = f.id ∧ f.rule ≠ 3 then 4 else 0) := by unfold Hid orderN; rw [if_neg h0, hg]
    generalize ahead[ahead.length - 1] = x at *
    have hwr : IntKind.i64.wrap ((ahead.length : Int) - 1) = ((ahead.length - 1 : Nat) : Int) := by
      rw [IntKind.wrap_i64]; omega
    have hl1 : ahead.length - 1 < ahead.length := by omega
    have hne : decide (ahead.length = 0) = false := by simp; intro h; exact h0 (by simp [h])
    clear hts hr hg
    go_enter Tryz.func51, Tryz.ntmps51
    go_wp2
    all_goals
      go_ret
      refine ⟨ret_int ?_, (Ext.refl w).alloc _⟩
      rw [E.out]
      clear E
      simp_all
      try omega
end Go.Proofs.YtmdpdgldmedebaaGreatDoor

namespace Go.Proofs.YtmdpdgldmedebaaGreatDoor
set_option linter.unusedSimpArgs false
set_option linter.unusedVariables false
open Go.RowKit

def hasOneAt (t : TypeM) (ids : List Int) (i : Nat) : Bool := decide ((t.fields.getD i FieldM.zero).rule ≠ 1) || ids.contains (t.fields.getD i FieldM.zero).id
def lacksB (t : TypeM) (ids : List Int) : Bool := !(List.range t.fields.length).all (hasOneAt t ids)
set_option maxHeartbeats 800000 in
theorem lacksOne_any (tv : TV) (t : TypeM) (s : SV) (ids : List Int) (w : World) (ht : TypeAt w tv t) (hs : IntsAt w s ids) (hn : t.fields.length ≤ 1048576) (hi : ids.length ≤ 1048576) :
    Calls Tryz.prog 53 #[.agg #[.string tv.name, .bool tv.enum, .slice tv.fields.a tv.fields.len tv.fields.cap, .slice tv.gone.a tv.gone.len tv.gone.cap, .slice tv.items.a tv.items.len tv.items.cap], .slice s.a s.len s.cap] w fun e w' => e = .returned (.bool (lacksB t ids)) ∧ Ext w w' := by
  obtain ⟨name, enum, ⟨b', n', c'⟩, gs, is⟩ := tv
  obtain ⟨hl, hts⟩ := ht.fields
  simp only at hl hts
  subst hl
  have Hs := hide hs
  clear hs ht
  show Calls Tryz.prog 53 #[.agg #[.string name, .bool enum, .slice b' t.fields.length c', .slice gs.a gs.len gs.cap, .slice is.a is.len is.cap], .slice s.a s.len s.cap] w _
  have hx0 : Ext w (w.alloc (.cells #[.string name, .bool enum, .slice b' t.fields.length c', .slice gs.a gs.len gs.cap, .slice is.a is.len is.cap] 50)) := (Ext.refl w).alloc _
  have E : Hid (lacksB t ids = !(List.range t.fields.length).all (hasOneAt t ids)) := rfl
  go_enter Tryz.func53, Tryz.ntmps53
  go_wp2
  go_loopw [10] (fun i wr => ∃ k : Nat, k ≤ t.fields.length ∧ i = .int .i64 k ∧ AllTo (hasOneAt t ids) k ∧ Ext w wr) (fun i wr => t.fields.length - (intOf i).toNat)
  case atStart => exact ⟨0, by omega, rfl, AllTo.zero _, hx0⟩
  case round =>
    obtain ⟨k, hk, rfl, hA, hx⟩ := hrel
    by_cases hlt : k < t.fields.length
    · obtain ⟨b, o, cs, ea, hr, rfl⟩ := hts k t.fields[k] (by simp [hlt])
      subst ea
      obtain ⟨h0, h1, h2, h3, h4⟩ := range5 (hx.range hr)
      have Hat : Hid (hasOneAt t ids k = (decide (t.fields[k].rule ≠ 1) || ids.contains t.fields[k].id)) := by
        unfold Hid hasOneAt; rw [show t.fields.getD k FieldM.zero = t.fields[k] by simp [List.getD, hlt]]
      clear hts hr
      generalize t.fields[k] = f at *
      by_cases hr1 : f.rule = 1
      · have Hr := hide hr1
        go_wp2_with fail
        refine (containsInt_any s ids f.id _ ((unhide Hs).ext (hx.alloc _)) (by omega)).mono ?_
        rintro e w1 ⟨rfl, rfl⟩
        cases hc : ids.contains f.id
        · have Hc := hide hc
          go_wp2
          go_ret
          refine ⟨ret_bool ?_, hx.alloc _⟩
          rw [E.out, not_all_range hlt (Hat.out.trans (by rw [unhide Hr, unhide Hc]; rfl))]
          rfl
        · have Hc := hide hc
          go_wp2
          exact ⟨⟨k + 1, by omega, by go_num, hA.succ (Hat.out.trans (by rw [unhide Hc]; simp)), hx.alloc _⟩, by simp [intOf]; omega⟩
      · have Hr := hide hr1
        go_wp2
        exact ⟨⟨k + 1, by omega, by go_num, hA.succ (Hat.out.trans (by simp [unhide Hr])), hx.alloc _⟩, by simp [intOf]; omega⟩
    · go_wp2
      go_ret
      refine ⟨ret_bool ?_, hx⟩
      rw [E.out, AllTo.all hA (by omega)]
      rfl

theorem TypeAt.setCell {w : World} {tv : TV} {t : TypeM} (h : TypeAt w tv t) {a : Addr} (u : Value) (h1 : ∀ ad, tv.fields.a = some ad → ad.block ≠ a.block) (h2 : ∀ ad, tv.gone.a = some ad → ad.block ≠ a.block) (h3 : ∀ ad, tv.items.a = some ad → ad.block ≠ a.block) : TypeAt (w.setCell a u) tv t :=
  ⟨h.name, h.enum, h.fields.setCell a u h1, h.gone.setCell a u h2, h.items.setCell a u h3, h.fok, h.gok, h.iok⟩
/-- None of its lists lies in block g. -/
def TV.off (tv : TV) (g : Nat) : Prop := (∀ ad, tv.fields.a = some ad → ad.block ≠ g) ∧ (∀ ad, tv.gone.a = some ad → ad.block ≠ g) ∧ (∀ ad, tv.items.a = some ad → ad.block ≠ g)
theorem TypeAt.setCell5 {w : World} {tv : TV} {t : TypeM} (h : TypeAt w tv t) {g : Nat} (ho : tv.off g) (u0 u1 u2 u3 u4 : Value) :
    TypeAt (((((w.setCell ⟨g, 0, none⟩ u0).setCell ⟨g, 1, none⟩ u1).setCell ⟨g, 2, none⟩ u2).setCell ⟨g, 3, none⟩ u3).setCell ⟨g, 4, none⟩ u4) tv t :=
  ((((h.setCell _ ho.1 ho.2.1 ho.2.2).setCell _ ho.1 ho.2.1 ho.2.2).setCell _ ho.1 ho.2.1 ho.2.2).setCell _ ho.1 ho.2.1 ho.2.2).setCell _ ho.1 ho.2.1 ho.2.2
theorem Ext.setCell5 {a w : World} (h : Ext a w) {g : Nat} (hg : a.heap.size ≤ g) (u0 u1 u2 u3 u4 : Value) :
    Ext a (((((w.setCell ⟨g, 0, none⟩ u0).setCell ⟨g, 1, none⟩ u1).setCell ⟨g, 2, none⟩ u2).setCell ⟨g, 3, none⟩ u3).setCell ⟨g, 4, none⟩ u4) :=
  ((((h.setCell hg _).setCell hg _).setCell hg _).setCell hg _).setCell hg _
def TV.Fresh (w : World) (tv : TV) : Prop := tv.fields.Fresh w ∧ tv.gone.Fresh w ∧ tv.items.Fresh w
theorem TV.Fresh.off {w : World} {tv : TV} (h : tv.Fresh w) {g : Nat} (hg : g < w.heap.size) : tv.off g :=
  ⟨fun ad ha => by have := h.1 ad ha; omega, fun ad ha => by have := h.2.1 ad ha; omega, fun ad ha => by have := h.2.2 ad ha; omega⟩
theorem TV.Fresh.mono {w w' : World} {tv : TV} (h : tv.Fresh w') (hz : w.heap.size ≤ w'.heap.size) : tv.Fresh w := ⟨h.1.mono hz, h.2.1.mono hz, h.2.2.mono hz⟩

set_option maxHeartbeats 800000 in
theorem typeOf_any (s : SV) (ts : BookM) (f : FieldM) (w : World) (hs : BookAt w s ts) (hn : ts.Small) :
    Calls Tryz.prog 45 #[.agg #[.slice s.a s.len s.cap], .agg #[.int .i64 f.id, .string f.name, .string f.type, .int .i64 f.kind, .int .i64 f.rule]] w fun e w' => ∃ tv : TV, e = .returned (.agg #[.string tv.name, .bool tv.enum, .slice tv.fields.a tv.fields.len tv.fields.cap, .slice tv.gone.a tv.gone.len tv.gone.cap, .slice tv.items.a tv.items.len tv.items.cap]) ∧ TypeAt w' tv ((findM ts f.type).getD TypeM.zero) ∧ Ext w w' ∧ tv.Fresh w := by
  have hx0 : Ext w (((w.alloc (.cells #[.slice s.a s.len s.cap] 24)).alloc (.cells #[.int .i64 f.id, .string f.name, .string f.type, .int .i64 f.kind, .int .i64 f.rule] 56)).alloc (.cells #[.string ⟨#[]⟩, .bool false, .slice none 0 0, .slice none 0 0, .slice none 0 0] 50)) := (((Ext.refl w).alloc _).alloc _).alloc _
  go_enter Tryz.func45, Tryz.ntmps45
  go_wp2_with fail
  refine (find_any s ts f.type _ (hs.ext hx0) hn).mono ?_
  rintro e w1 ⟨tv, rfl, htv, hx1, hfr⟩
  have hr1 := hx1.heap (heap_alloc_new ((w.alloc (.cells #[.slice s.a s.len s.cap] 24)).alloc (.cells #[.int .i64 f.id, .string f.name, .string f.type, .int .i64 f.kind, .int .i64 f.rule] 56)) (.cells #[.string ⟨#[]⟩, .bool false, .slice none 0 0, .slice none 0 0, .slice none 0 0] 50))
  have hz1 := lt_of_heap hr1
  obtain ⟨q0, q1, q2, q3, q4, hf⟩ := row5 hr1
  have Htv := hide htv
  have hfr2 : tv.Fresh (((w.alloc (.cells #[.slice s.a s.len s.cap] 24)).alloc (.cells #[.int .i64 f.id, .string f.name, .string f.type, .int .i64 f.kind, .int .i64 f.rule] 56)).alloc (.cells #[.string ⟨#[]⟩, .bool false, .slice none 0 0, .slice none 0 0, .slice none 0 0] 50)) := hfr
  have Hfr := hide hfr2
  clear htv hfr hfr2
  simp only [World.alloc, Array.size_push] at hr1 hz1 q0 q1 q2 q3 q4 hf
  go_wp2
  refine bodyPost_ret (v := .agg #[.string tv.name, .bool tv.enum, .slice tv.fields.a tv.fields.len tv.fields.cap, .slice tv.gone.a tv.gone.len tv.gone.cap, .slice tv.items.a tv.items.len tv.items.cap]) ?_ rfl ⟨tv, rfl, ?_, ?_, ?_⟩
  · simp [results, Tryz.results45, go_sem, q0, q1, q2, q3, q4, hz1]
  · exact ((unhide Htv).setCell5 ((unhide Hfr).off (by simp)) _ _ _ _ _).ext ((Ext.refl _).alloc _)
  · exact ((hx0.trans hx1).setCell5 (by omega) _ _ _ _ _).alloc _
  · exact (unhide Hfr).mono (by simp; omega)
end Go.Proofs.YtmdpdgldmedebaaGreatDoor

namespace Go.Proofs.YtmdpdgldmedebaaGreatDoor
set_option linter.unusedSimpArgs false
set_option linter.unusedVariables false
open Go.RowKit

/-- The first n operations can come up in the order of the text alone. -/
def forcedFrom (ops : Array Oper) : Nat → Nat → Array Bool → Bool
  | 0, _, _ => true
  | n + 1, k, listed => (Region.ready .any ops listed == [k]) && forcedFrom ops n (k + 1) (listed.setIfInBounds k true)

/-- The operations from k on, n of them, are listed. -/
def listTo : Nat → Nat → Array Bool → Array Bool
  | 0, _, listed => listed
  | n + 1, k, listed => listTo n (k + 1) (listed.setIfInBounds k true)

/-- What an operation leaves by: 'normal' is no way out of one operation. -/
theorem wp_then {P : Program} {o : Oper} {a : Act} {w : World} {N N' : Act → World → Prop} {K : Act → World → Prop} {Q : Exit → Act → World → Prop} (hN : ∀ a w, N a w → N' a w) (h : o.wp P a w N (Exit.then K Q)) : o.wp P a w N' Q := by
  unfold Oper.wp at *
  generalize (execOp a.eval o).run P w = r at *
  cases r with
  | ok n w' =>
    cases n <;> simp only [Oper.upon] at h ⊢
    case value => exact hN _ _ h
    case skip => exact hN _ _ h
    case defer => exact hN _ _ h
    case enter =>
      refine h.mono fun e w'' he => ?_
      cases e with
      | returned v => exact hN _ _ he
      | panicked c => exact he
      | outgrown => exact he
    case row => exact h.mono fun v w'' hv => hN _ _ hv
  | halt x w' => cases x <;> simp only [Oper.upon] at h ⊢; exact h

theorem wpAny_forced {P : Program} {ops : Array Oper} {Q : Exit → Act → World → Prop} (K : Act → World → Prop) (fuel : Nat) : ∀ (l : List Oper) (k : Nat) (listed : Array Bool) (a : Act) (w : World), (∀ j, j < l.length → l[j]? = ops[k + j]?) →
    forcedFrom ops l.length k listed = true →
    (∀ a' w', K a' w' → wpAny P .any ops Q fuel (listTo l.length k listed) a' w') →
    wpList P ops (Exit.then K Q) l a w → wpAny P .any ops Q (l.length + fuel) listed a w
  | [], k, listed, a, w, _, _, hK, h => by
    have := hK a w h
    simpa [listTo] using this
  | o :: l, k, listed, a, w, hl, hf, hK, h => by
    have h0 : ops[k]? = some o := by simpa using (hl 0 (by simp)).symm
    simp only [List.length_cons, forcedFrom, Bool.and_eq_true, beq_iff_eq] at hf
    obtain ⟨hr, hf'⟩ := hf
    rw [List.length_cons, show l.length + 1 + fuel = (l.length + fuel) + 1 by omega]
    refine And.intro (fun e => by rw [hr] at e; cases e) (fun i hi => ?_)
    rw [hr] at hi
    obtain rfl : i = k := by simpa using hi
    have ih : ∀ a' w', wpList P ops (Exit.then K Q) l a' w' → wpAny P .any ops Q (l.length + fuel) (listed.setIfInBounds i true) a' w' := fun a' w' h' =>
      wpAny_forced K fuel l (i + 1) _ a' w' (fun j hj => by have := hl (j + 1) (by simp; omega); simpa [Nat.add_assoc, Nat.add_comm 1 j] using this) hf'
        (fun a'' w'' hk => hK a'' w'' hk) h'
    unfold wpOp
    simp only [h0]
    unfold wpList at h
    split
    · rename_i hw
      rw [if_pos hw] at h
      rcases h with h | ⟨h1, h2⟩
      · refine .inl (wp_then (K := K) ih ?_)
        exact h
      · exact .inr ⟨h1, h2⟩
    · rename_i hw
      rw [if_neg hw] at h
      exact ih _ _ h

/-- A REGION THAT DRAWS ITS ORDER, whose first operations can come up in the order of the text alone (they may do what they like), and whose others only read: one walk, in the order of the text. -/
theorem wp_region_prefix {P : Program} {id : Nat} {Q : Exit → Act → World → Prop} {a : Act} {w : World} (l1 l2 : List Oper) {l : List Oper} (hl : l = l1 ++ l2) (hm : P.follows .mixedOrders = true)
    (hs : Region.noSelect l.toArray = true) (hf : forcedFrom l.toArray l1.length 0 (Array.replicate l.toArray.size false) = true)
    (hB : Region.lexFrom .any l.toArray l2.length l1.length (listTo l1.length 0 (Array.replicate l.toArray.size false)) = true)
    (h : ∀ K : Act → World → Prop, Hid (∀ a' w', wpQuiet P l.toArray (fun w'' => ∃ n, w'' = w'.drewN n) (fun a'' => ∀ w'', (∃ n, w'' = w'.drewN n) → Q .normal a'' w'') l2 a' → K a' w') → wpList P l.toArray (Exit.then K Q) l1 a w.drew) : (Code.region id l.toArray true).wp P Q a w := by
  replace h := h (fun a' w' => wpQuiet P l.toArray (fun w'' => ∃ n, w'' = w'.drewN n) (fun a'' => ∀ w'', (∃ n, w'' = w'.drewN n) → Q .normal a'' w'') l2 a') (fun _ _ h => h)
  refine wp_region_any hm ?_
  have hz : l.toArray.size = l1.length + l2.length := by rw [hl]; simp
  rw [hz]
  refine wpAny_forced _ l2.length l1 0 _ a _ (fun j hj => ?_) (by rw [← hz]; exact hf) (fun a' w' hk => ?_) h
  · rw [hl]; simp [List.getElem?_append_left hj]
  · refine wpAny_of_quiet (C := fun w'' => ∃ n, w'' = w'.drewN n) (Q := fun a'' => ∀ w'', (∃ n, w'' = w'.drewN n) → Q .normal a'' w'') (fun _ w'' hw'' h => h w'' hw'') _ _ _ _ ⟨0, rfl⟩ ?_
    exact wpAnyQ_lex hs l2 l1.length _ a' (fun j => by rw [hl]; simp [List.getElem?_append_right]) (by rw [← hz]; exact hB) hk
end Go.Proofs.YtmdpdgldmedebaaGreatDoor

namespace Go.Proofs.YtmdpdgldmedebaaGreatDoor
set_option linter.unusedSimpArgs false
set_option linter.unusedVariables false
open Go.RowKit

/-- Whatever order is picked from here on; 'S' holds behind each operation, till one of 'B' has been carried out. -/
def wpAnyX (P : Program) (ops : Array Oper) (Q : Exit → Act → World → Prop) (S : World → Prop) (B : Nat → Bool) : Nat → Array Bool → Act → World → Prop
  | 0, listed, a, w => Region.ready .any ops listed = [] ∧ Q .normal a w
  | fuel + 1, listed, a, w =>
    (Region.ready .any ops listed = [] → Q .normal a w) ∧
    ∀ j ∈ Region.ready .any ops listed, wpOp P ops Q j (fun a' w' => (B j = true → wpAny P .any ops Q fuel (listed.setIfInBounds j true) a' w') ∧ (B j = false → S w' ∧ wpAnyX P ops Q S B fuel (listed.setIfInBounds j true) a' w')) a w

section
variable {P : Program} {ops : Array Oper} {Q : Exit → Act → World → Prop} {S : World → Prop} {B : Nat → Bool}

theorem wpAny_of_X : ∀ (fuel : Nat) (listed : Array Bool) (a : Act) (w : World), wpAnyX P ops Q S B fuel listed a w → wpAny P .any ops Q fuel listed a w
  | 0, _, _, _, h => h
  | fuel + 1, _, _, _, h => ⟨h.1, fun j hj => wpOp_mono (fun a' w' h' => by
      cases hB : B j
      · exact wpAny_of_X fuel _ a' w' (h'.2 hB).2
      · exact h'.1 hB) (h.2 j hj)⟩

/-- An operation that reads only what S holds fast may be taken first, if whatever S need not outlive waits for it. -/
theorem wpAnyX_first {i : Nat} {oi : Oper} {v : Value} (hi : ops[i]? = some oi) (hsel : ∀ (j : Nat) (o : Oper) cs b, ops[j]? = some o → o.op ≠ .select cs b)
    (hQ : ∀ c a w, Q (.panic c) (a.put oi.dst v) w → Q (.panic c) a w) (hBi : B i = false) :
    ∀ (fuel : Nat) (listed : Array Bool) (a : Act) (w : World),
      (∀ j oj, ops[j]? = some oj → j ≠ i → listed.getD j true = false → (∀ e ∈ oj.after, Region.binds .any e = true → e.on ≠ i) → oi.apart ops oj = true ∧ B j = false) →
      i ∈ Region.ready .any ops listed → YieldsIf P ops S oi v a → S w →
      wpAnyX P ops Q S B fuel (listed.setIfInBounds i true) (a.put oi.dst v) w → wpAnyX P ops Q S B (fuel + 1) listed a w := by
  intro fuel
  induction fuel with
  | zero =>
    intro listed a w _ hr hy hS H
    refine And.intro (fun h => by rw [h] at hr; cases hr) (fun j hj => ?_)
    by_cases hji : j = i
    · subst hji
      exact hy.wpOp hi hS ⟨fun h => (by rw [hBi] at h; cases h), fun _ => ⟨hS, H⟩⟩
    · have := ready_mono hj hji
      rw [H.1] at this
      cases this
  | succ fuel ih =>
    intro listed a w hfree hr hy hS H
    refine And.intro (fun h => by rw [h] at hr; cases hr) (fun j hj => ?_)
    by_cases hji : j = i
    · subst hji
      exact hy.wpOp hi hS ⟨fun h => (by rw [hBi] at h; cases h), fun _ => ⟨hS, H⟩⟩
    · have h1 := H.2 j (ready_mono hj hji)
      obtain ⟨hjun, oj, hoj, hall⟩ := mem_ready.1 hj
      have hnot : ∀ e ∈ oj.after, Region.binds .any e = true → e.on ≠ i := fun e he hb heq => by
        have h1 := hall e he hb
        have h0 := (mem_ready.1 hr).1
        rw [heq] at h1
        rcases Nat.lt_or_ge i listed.size with h' | h'
        · simp [h'] at h0 h1; rw [h0] at h1; cases h1
        · simp [Array.getElem?_eq_none h'] at h1
      obtain ⟨hap, hBj⟩ := hfree j oj hoj hji hjun hnot
      have h2 := wpOp_putIf hoj hap (fun cs b => hsel i oi cs b hi) (fun cs b => hsel j oj cs b hoj) hQ hy h1
      refine wpOp_mono (fun a' w' h3 => ⟨fun h => (by rw [hBj] at h; cases h), fun _ => ?_⟩) h2
      obtain ⟨hS', H'⟩ := h3.2.2 hBj
      refine ⟨hS', ih (listed.setIfInBounds j true) a' w' (fun k ok hk hki hun hno => ?_) (ready_mono hr (Ne.symm hji)) h3.1 hS' ?_⟩
      · refine hfree k ok hk hki ?_ hno
        by_cases hjk : j = k
        · subst hjk; exact hjun
        · rw [getD_set_ne true hjk] at hun; exact hun
      · rw [Array.setIfInBounds_comm _ _ hji]; exact H'

/-- The side condition as one Bool. -/
def freeX (ops : Array Oper) (B : Nat → Bool) (listed : Array Bool) (i : Nat) : Bool :=
  match ops[i]? with
  | none => false
  | some oi => (!B i) && (Region.ready .any ops listed).contains i && (List.range ops.size).all fun j => j == i || listed.getD j true || match ops[j]? with
      | some oj => oj.after.any (fun e => Region.binds .any e && e.on == i) || (oi.apart ops oj && !B j)
      | none => true

theorem wpAnyX_take {i : Nat} {oi : Oper} {v : Value} {fuel : Nat} {listed : Array Bool} {a : Act} {w : World} (hi : ops[i]? = some oi) (hs : Region.noSelect ops = true) (hf : freeX ops B listed i = true)
    (hQ : ∀ c a w, Q (.panic c) (a.put oi.dst v) w → Q (.panic c) a w) (hy : YieldsIf P ops S oi v a) (hS : S w)
    (h : wpAnyX P ops Q S B fuel (listed.setIfInBounds i true) (a.put oi.dst v) w) : wpAnyX P ops Q S B (fuel + 1) listed a w := by
  simp only [freeX, hi, Bool.and_eq_true, Bool.not_eq_true', List.all_eq_true, List.mem_range] at hf
  obtain ⟨⟨hB, hr⟩, hall⟩ := hf
  refine wpAnyX_first hi (Region.noSelect_spec hs) hQ hB fuel listed a w (fun j oj hj hne hun hno => ?_) (by simpa using hr) hy hS h
  have h1 := hall j (Array.getElem?_eq_some_iff.1 hj).1
  simp only [hj, Bool.or_eq_true, beq_iff_eq, hne, false_or, hun, Bool.false_eq_true, Bool.and_eq_true, Bool.not_eq_true', Array.any_eq_true] at h1
  rcases h1 with ⟨k, hk, hb⟩ | h1
  · exact absurd hb.2 (hno _ (Array.getElem_mem hk) hb.1)
  · exact h1

/-- The one that may come up now: behind it S is shown. -/
theorem wpAnyX_one {j : Nat} {oj : Oper} {fuel : Nat} {listed : Array Bool} {a : Act} {w : World} (hj : ops[j]? = some oj) (hr : Region.ready .any ops listed = [j]) (hB : B j = false)
    (h : ∀ K : Act → World → Prop, Hid (∀ a' w', S w' → wpAnyX P ops Q S B fuel (listed.setIfInBounds j true) a' w' → K a' w') → wpList P ops (Exit.then K Q) [oj] a w) : wpAnyX P ops Q S B (fuel + 1) listed a w := by
  refine And.intro (fun e => by rw [hr] at e; cases e) (fun i hi => ?_)
  rw [hr] at hi
  obtain rfl : i = j := by simpa using hi
  have h1 := h (fun a' w' => S w' ∧ wpAnyX P ops Q S B fuel (listed.setIfInBounds i true) a' w') (fun _ _ hS hX => ⟨hS, hX⟩)
  unfold wpOp
  simp only [hj]
  unfold wpList at h1
  split
  · rename_i hw
    rw [if_pos hw] at h1
    rcases h1 with h1 | h1
    · refine .inl (wp_then (N := wpList P ops (Exit.then (fun a' w' => S w' ∧ wpAnyX P ops Q S B fuel (listed.setIfInBounds i true) a' w') Q) []) (fun a' w' hh => ⟨fun h => (by rw [hB] at h; cases h), fun _ => hh⟩) h1)
    · exact .inr h1
  · rename_i hw
    rw [if_neg hw] at h1
    exact ⟨fun h => (by rw [hB] at h; cases h), fun _ => h1⟩

/-- From here on each can come up alone: no S any more. -/
def forcedL (ops : Array Oper) : List Nat → Array Bool → Bool
  | [], listed => Region.ready .any ops listed == []
  | i :: is, listed => (Region.ready .any ops listed == [i]) && forcedL ops is (listed.setIfInBounds i true)

theorem wpAny_forcedL (K : Act → World → Prop) (hK : ∀ a w, K a w → Q .normal a w) (is : List Nat) : ∀ (l : List Oper) (listed : Array Bool) (a : Act) (w : World), l.length = is.length → (∀ (j i : Nat), is[j]? = some i → l[j]? = ops[i]?) →
    forcedL ops is listed = true → wpList P ops (Exit.then K Q) l a w → wpAny P .any ops Q is.length listed a w := by
  induction is with
  | nil =>
    intro l listed a w hlen _ hf h
    have : l = [] := List.length_eq_zero_iff.1 (by simpa using hlen)
    subst this
    simp only [forcedL, beq_iff_eq] at hf
    exact ⟨hf, hK _ _ h⟩
  | cons i is ih =>
    intro l listed a w hlen hl hf h
    cases l with
    | nil => simp at hlen
    | cons o l =>
      have h0 : ops[i]? = some o := by simpa using (hl 0 i rfl).symm
      simp only [forcedL, Bool.and_eq_true, beq_iff_eq] at hf
      obtain ⟨hr, hf'⟩ := hf
      rw [List.length_cons]
      refine And.intro (fun e => by rw [hr] at e; cases e) (fun j hj => ?_)
      rw [hr] at hj
      obtain rfl : j = i := by simpa using hj
      have ih' : ∀ a' w', wpList P ops (Exit.then K Q) l a' w' → wpAny P .any ops Q is.length (listed.setIfInBounds j true) a' w' := fun a' w' h' =>
        ih l _ a' w' (by simpa using hlen) (fun m n hm => by have := hl (m + 1) n (by simpa using hm); simpa using this) hf' h'
      unfold wpOp
      simp only [h0]
      unfold wpList at h
      split
      · rename_i hw
        rw [if_pos hw] at h
        rcases h with h | h
        · exact .inl (wp_then (K := K) ih' h)
        · exact .inr h
      · rename_i hw
        rw [if_neg hw] at h
        exact ih' _ _ h

theorem wpAnyX_end (is : List Nat) (l : List Oper) {listed : Array Bool} {a : Act} {w : World} (hlen : l.length = is.length) (hl : ∀ (j i : Nat), is[j]? = some i → l[j]? = ops[i]?) (hf : forcedL ops is listed = true) (hB : ∀ i, is[0]? = some i → B i = true)
    (h : ∀ K : Act → World → Prop, Hid (∀ a' w', Q .normal a' w' → K a' w') → wpList P ops (Exit.then K Q) l a w) : wpAnyX P ops Q S B is.length listed a w := by
  have h1 := wpAny_forcedL (Q := Q) (P := P) (fun a w => Q .normal a w) (fun _ _ h => h) is l listed a w hlen hl hf (h _ (fun _ _ h => h))
  cases is with
  | nil => exact h1
  | cons i is =>
    have hr : Region.ready .any ops listed = [i] := by
      simp only [forcedL, Bool.and_eq_true, beq_iff_eq] at hf; exact hf.1
    refine And.intro h1.1 (fun j hj => wpOp_mono (fun a' w' h' => ⟨fun _ => h', fun hh => ?_⟩) (h1.2 j hj))
    rw [hr] at hj
    obtain rfl : j = i := by simpa using hj
    rw [hB j rfl] at hh
    cases hh

theorem wp_region_X {id : Nat} {a : Act} {w : World} (S : World → Prop) (B : Nat → Bool) (hm : P.follows .mixedOrders = true) (h : wpAnyX P ops Q S B ops.size (Array.replicate ops.size false) a w.drew) : (Code.region id ops true).wp P Q a w :=
  wp_region_any hm (wpAny_of_X _ _ _ _ h)
end

end Go.Proofs.YtmdpdgldmedebaaGreatDoor

namespace Go.Proofs.YtmdpdgldmedebaaGreatDoor
set_option linter.unusedSimpArgs false
set_option linter.unusedVariables false
open Go.RowKit

theorem heaps3 {w w0 : World} {a b c : Obj} (h : w0 = ((w.alloc a).alloc b).alloc c) : Ext w w0 ∧ w0.heap.size = w.heap.size + 3 ∧ w0.heap[w.heap.size]? = some a ∧ w0.heap[w.heap.size + 1]? = some b ∧ w0.heap[w.heap.size + 1 + 1]? = some c := by
  subst h
  refine ⟨(((Ext.refl w).alloc _).alloc _).alloc _, by simp, (((Ext.refl _).alloc _).alloc _).heap (heap_alloc_new w a), ?_, ?_⟩
  · have := ((Ext.refl _).alloc c).heap (heap_alloc_new (w.alloc a) b)
    simpa using this
  · have := heap_alloc_new ((w.alloc a).alloc b) c
    simpa using this

theorem find_small {ts : BookM} (hn : ts.Small) (name : ByteArray) : ((findM ts name).getD TypeM.zero).Small := by
  cases hf : findM ts name with
  | none => exact ⟨by decide, by decide, by decide, by decide, fun x hx => absurd hx List.not_mem_nil, fun x hx => absurd hx List.not_mem_nil⟩
  | some t => exact hn.2 t (findM_mem hf)
theorem small_items {ts : BookM} (hn : ts.Small) (name : ByteArray) : ((findM ts name).getD TypeM.zero).items.length ≤ 9223372036854775807 := Nat.le_trans (find_small hn name).items (by decide)

/-- What is wrong with a value as one of a field, whatever stands in it. -/
def wrongOneN (ts : BookM) (f : FieldM) (kind n : Int) (s : ByteArray) (ni nl : Nat) : Int :=
  if kind ≠ kindN f.kind then 5 else if oneKindB kind n s ni nl = false then 1
  else if f.kind = 1 then (if n ≠ 0 ∧ n ≠ 1 then 6 else 0)
  else if f.kind = 2 then (if n < -1099511627776 ∨ 1099511627776 < n then 2 else 0)
  else if f.kind = 3 then (if goodTextB s = true then 0 else 1)
  else if f.kind = 4 then (if (((findM ts f.type).getD TypeM.zero).items.any fun i => i.n == n) = true then 0 else 6)
  else 0

set_option maxHeartbeats 3200000 in
theorem wrongOne_any (sb : SV) (ts : BookM) (f : FieldM) (kind n : Int) (s : ByteArray) (ids l : SV) (w : World) (hb : BookAt w sb ts) (hn : ts.Small) (hs : s.size ≤ 9223372036854775807) (h1 : ids.len ≤ 9223372036854775807) (h2 : l.len ≤ 9223372036854775807) :
    Calls Tryz.prog 52 #[.agg #[.slice sb.a sb.len sb.cap], .agg #[.int .i64 f.id, .string f.name, .string f.type, .int .i64 f.kind, .int .i64 f.rule], .agg #[.int .i64 kind, .int .i64 n, .string s, .slice ids.a ids.len ids.cap, .slice l.a l.len l.cap]] w fun e w' => e = .returned (.int .i64 (wrongOneN ts f kind n s ids.len l.len)) ∧ Ext w w' := by
  obtain ⟨w0, hw0⟩ : ∃ w0, w0 = ((w.alloc (.cells #[.slice sb.a sb.len sb.cap] 24)).alloc (.cells #[.int .i64 f.id, .string f.name, .string f.type, .int .i64 f.kind, .int .i64 f.rule] 56)).alloc (.cells #[.int .i64 kind, .int .i64 n, .string s, .slice ids.a ids.len ids.cap, .slice l.a l.len l.cap] 28) := ⟨_, rfl⟩
  obtain ⟨hx0, hz, r0, r1, r2⟩ := heaps3 hw0
  have hb0 := hb.ext hx0
  have E : Hid (wrongOneN ts f kind n s ids.len l.len = if kind ≠ kindN f.kind then 5 else if oneKindB kind n s ids.len l.len = false then 1
    else if f.kind = 1 then (if n ≠ 0 ∧ n ≠ 1 then 6 else 0)
    else if f.kind = 2 then (if n < -1099511627776 ∨ 1099511627776 < n then 2 else 0)
    else if f.kind = 3 then (if goodTextB s = true then 0 else 1)
    else if f.kind = 4 then (if (((findM ts f.type).getD TypeM.zero).items.any fun i => i.n == n) = true then 0 else 6)
    else 0) := rfl
  have HW0 := hide hw0
  generalize wrongOneN ts f kind n s ids.len l.len = R at *
  clear hw0 hb
  go_enter Tryz.func52, Tryz.ntmps52
  go_wp2_with fail
  rw [← unhide HW0]
  obtain ⟨f0, f1, f2, f3, f4, ff⟩ := row5 r1
  obtain ⟨v0, v1, v2, v3, v4, vf⟩ := row5 r2
  have b0 : w0.cell? ⟨w.heap.size, 0, none⟩ = some (.slice sb.a sb.len sb.cap) := cell_of_row _ _ 0 _ _ _ r0
  have hS0 : Ext w0 w0.drew := (Ext.refl w0).drew
  refine wp_region_X (fun w' => Ext w0 w') (fun _ => false) (by kernel_rfl) ?_
  refine wpAnyX_take (i := 0) (v := .pointer (some ⟨w.heap.size + 1 + 1, 0, none⟩)) rfl (by kernel_rfl) (by kernel_rfl) (fun _ _ _ h => h) (.inl ⟨rfl, fun w' hS => by simp [execOp, go_sem]⟩) (hS0) ?_
  simp only [Act.put, List.getElem_toArray, List.getElem_cons_zero, List.getElem_cons_succ, List.setIfInBounds_toArray, List.set_cons_succ, List.set_cons_zero]
  refine wpAnyX_take (i := 1) (v := .int .i64 kind) rfl (by kernel_rfl) (by kernel_rfl) (fun _ _ _ h => h) (.inl ⟨rfl, fun w' hS => by simp [execOp, go_sem, hS.cell v0]⟩) (hS0) ?_
  simp only [Act.put, List.getElem_toArray, List.getElem_cons_zero, List.getElem_cons_succ, List.setIfInBounds_toArray, List.set_cons_succ, List.set_cons_zero]
  refine wpAnyX_take (i := 2) (v := .pointer (some ⟨w.heap.size + 1, 3, none⟩)) rfl (by kernel_rfl) (by kernel_rfl) (fun _ _ _ h => h) (.inl ⟨rfl, fun w' hS => by simp [execOp, go_sem]⟩) (hS0) ?_
  simp only [Act.put, List.getElem_toArray, List.getElem_cons_zero, List.getElem_cons_succ, List.setIfInBounds_toArray, List.set_cons_succ, List.set_cons_zero]
  refine wpAnyX_take (i := 3) (v := .int .i64 f.kind) rfl (by kernel_rfl) (by kernel_rfl) (fun _ _ _ h => h) (.inl ⟨rfl, fun w' hS => by simp [execOp, go_sem, hS.cell f3]⟩) (hS0) ?_
  simp only [Act.put, List.getElem_toArray, List.getElem_cons_zero, List.getElem_cons_succ, List.setIfInBounds_toArray, List.set_cons_succ, List.set_cons_zero]
  refine wpAnyX_one (j := 4) rfl (by kernel_rfl) rfl fun K hK => ?_
  go_wp2_with fail
  refine (kind_any f.kind _).mono ?_
  rintro e w1 ⟨rfl, rfl⟩
  go_wp2
  refine hK.out _ _ (hS0) ?_
  clear hK K
  refine wpAnyX_one (j := 5) rfl (by kernel_rfl) rfl fun K hK => ?_
  go_wp2
  refine hK.out _ _ (hS0) ?_
  clear hK K
  refine wpAnyX_end [] [] rfl (by intro j i hj; simp at hj) (by kernel_rfl) (by intro i hi; simp at hi) fun K hK => ?_
  go_wp2
  refine hK.out _ _ ?_
  clear hK K
  have hE0 : Ext w w0.drew := hx0.trans hS0
  by_cases hk : kind = kindN f.kind
  case neg =>
    have Hk := hide hk
    have hkb : decide (kind = kindN f.kind) = false := by simpa using hk
    go_wp2
    go_ret
    exact ⟨ret_int (by rw [E.out, if_pos (unhide Hk)]), hE0⟩
  subst hk
  go_wp2_with fail
  refine (ofOneKind_any (kindN f.kind) n s ids l _ h1 h2).mono ?_
  rintro e w1 ⟨rfl, hx1⟩
  have hS1 : Ext w0 w1 := hS0.trans hx1
  have hE1 : Ext w w1 := hx0.trans hS1
  have E1 : Hid (oneKindB (kindN f.kind) n s ids.len l.len = true → R = if f.kind = 1 then (if n ≠ 0 ∧ n ≠ 1 then 6 else 0)
    else if f.kind = 2 then (if n < -1099511627776 ∨ 1099511627776 < n then 2 else 0)
    else if f.kind = 3 then (if goodTextB s = true then 0 else 1)
    else if f.kind = 4 then (if (((findM ts f.type).getD TypeM.zero).items.any fun i => i.n == n) = true then 0 else 6)
    else 0) := by
    intro h; rw [E.out, if_neg (by simp), if_neg (by simp [h])]
  have E2 : Hid (oneKindB (kindN f.kind) n s ids.len l.len = false → R = 1) := by
    intro h; rw [E.out, if_neg (by simp), if_pos h]
  have g0 := hS1.cell b0
  obtain ⟨g1, g2, g3, g4, g5⟩ : w1.cell? ⟨w.heap.size + 1, 0, none⟩ = some (.int .i64 f.id) ∧ w1.cell? ⟨w.heap.size + 1, 1, none⟩ = some (.string f.name) ∧ w1.cell? ⟨w.heap.size + 1, 2, none⟩ = some (.string f.type) ∧ w1.cell? ⟨w.heap.size + 1, 3, none⟩ = some (.int .i64 f.kind) ∧ w1.cell? ⟨w.heap.size + 1, 4, none⟩ = some (.int .i64 f.rule) := ⟨hS1.cell f0, hS1.cell f1, hS1.cell f2, hS1.cell f3, hS1.cell f4⟩
  have q1 := hS1.cell v1
  have q2 := hS1.cell v2
  have hb1 := hb0.ext hS1
  cases hok : oneKindB (kindN f.kind) n s ids.len l.len
  · have Hr := hide (E2.out hok)
    clear E E1 E2
    go_wp2
    go_ret
    exact ⟨ret_int (unhide Hr).symm, hE1⟩
  have E3 := hide (E1.out hok)
  clear E E1 E2 hok b0 f0 f1 f2 f3 f4 ff v0 v1 v2 v3 v4 vf
  have hkk : ∀ j : Int, f.kind ≠ j → (f.kind == j) = false := fun j h => by simpa using h
  by_cases k1 : f.kind = 1
  · have E4 : Hid (R = if n ≠ 0 ∧ n ≠ 1 then 6 else 0) := by unfold Hid; rw [unhide E3, if_pos k1]
    have kd : (f.kind == 1) = true := by simp [k1]
    clear k1
    go_wp2
    all_goals
      go_ret
      refine ⟨ret_int ?_, hE1⟩
      rw [E4.out]
      simp_all
  by_cases k2 : f.kind = 2
  · have E4 : Hid (R = if n < -1099511627776 ∨ 1099511627776 < n then 2 else 0) := by unfold Hid; rw [unhide E3, if_neg k1, if_pos k2]
    have kd1 := hkk 1 k1
    have kd : (f.kind == 2) = true := by simp [k2]
    clear k1 k2
    go_wp2
    all_goals
      go_ret
      refine ⟨ret_int ?_, hE1⟩
      rw [E4.out]
      simp_all
      try omega
  by_cases k3 : f.kind = 3
  · have E4 : Hid (R = if goodTextB s = true then 0 else 1) := by unfold Hid; rw [unhide E3, if_neg k1, if_neg k2, if_pos k3]
    have kd1 := hkk 1 k1
    have kd2 := hkk 2 k2
    have kd : (f.kind == 3) = true := by simp [k3]
    clear k1 k2 k3
    go_wp2_with fail
    refine (goodText_any s _ hs).mono ?_
    rintro e w2 ⟨rfl, rfl⟩
    cases hg : goodTextB s
    · have Hr : Hid (R = 1) := by unfold Hid; rw [E4.out, hg]; rfl
      clear E4
      go_wp2
      go_ret
      exact ⟨ret_int (unhide Hr).symm, hE1⟩
    · have Hr : Hid (R = 0) := by unfold Hid; rw [E4.out, hg]; rfl
      clear E4
      go_wp2
      go_ret
      exact ⟨ret_int (unhide Hr).symm, hE1⟩
  have kd1 := hkk 1 k1
  have kd2 := hkk 2 k2
  have kd3 := hkk 3 k3
  by_cases k4 : f.kind = 4
  case neg =>
    have E4 : Hid (R = 0) := by unfold Hid; rw [unhide E3, if_neg k1, if_neg k2, if_neg k3, if_neg k4]
    have kd := hkk 4 k4
    clear k1 k2 k3 k4
    go_wp2
    go_ret
    exact ⟨ret_int (unhide E4).symm, hE1⟩
  have E4 : Hid (R = if (((findM ts f.type).getD TypeM.zero).items.any fun i => i.n == n) = true then 0 else 6) := by unfold Hid; rw [unhide E3, if_neg k1, if_neg k2, if_neg k3, if_pos k4]
  have kd : (f.kind == 4) = true := by simp [k4]
  clear k1 k2 k3 k4
  go_wp2_with fail
  have hS1' : Ext w1 w1.drew := (Ext.refl w1).drew
  refine wp_region_X (fun w' => Ext w1 w') (fun _ => false) (by kernel_rfl) ?_
  refine wpAnyX_take (i := 0) (v := .agg #[.slice sb.a sb.len sb.cap]) rfl (by kernel_rfl) (by kernel_rfl) (fun _ _ _ h => h) (.inl ⟨rfl, fun w' hS => by simp [execOp, go_sem, hS.cell g0]⟩) (hS1') ?_
  simp only [Act.put, List.getElem_toArray, List.getElem_cons_zero, List.getElem_cons_succ, List.setIfInBounds_toArray, List.set_cons_succ, List.set_cons_zero]
  refine wpAnyX_take (i := 1) (v := .agg #[.int .i64 f.id, .string f.name, .string f.type, .int .i64 f.kind, .int .i64 f.rule]) rfl (by kernel_rfl) (by kernel_rfl) (fun _ _ _ h => h) (.inl ⟨rfl, fun w' hS => by simp [execOp, go_sem, hS.cell g1, hS.cell g2, hS.cell g3, hS.cell g4, hS.cell g5]⟩) (hS1') ?_
  simp only [Act.put, List.getElem_toArray, List.getElem_cons_zero, List.getElem_cons_succ, List.setIfInBounds_toArray, List.set_cons_succ, List.set_cons_zero]
  refine wpAnyX_take (i := 3) (v := .pointer (some ⟨w.heap.size + 1 + 1, 1, none⟩)) rfl (by kernel_rfl) (by kernel_rfl) (fun _ _ _ h => h) (.inl ⟨rfl, fun w' hS => by simp [execOp, go_sem]⟩) (hS1') ?_
  simp only [Act.put, List.getElem_toArray, List.getElem_cons_zero, List.getElem_cons_succ, List.setIfInBounds_toArray, List.set_cons_succ, List.set_cons_zero]
  refine wpAnyX_take (i := 4) (v := .int .i64 n) rfl (by kernel_rfl) (by kernel_rfl) (fun _ _ _ h => h) (.inl ⟨rfl, fun w' hS => by simp [execOp, go_sem, hS.cell q1]⟩) (hS1') ?_
  simp only [Act.put, List.getElem_toArray, List.getElem_cons_zero, List.getElem_cons_succ, List.setIfInBounds_toArray, List.set_cons_succ, List.set_cons_zero]
  refine wpAnyX_one (j := 2) rfl (by kernel_rfl) rfl fun K hK => ?_
  go_wp2_with fail
  refine (typeOf_any sb ts f _ (hb1.ext hS1') hn).mono ?_
  rintro e w2 ⟨tv, rfl, htv, hx2, hfr⟩
  have hS2 : Ext w1 w2 := hS1'.trans hx2
  have Htv := hide htv
  clear htv hfr
  go_wp2
  refine hK.out _ _ (hS2) ?_
  clear hK K
  refine wpAnyX_one (j := 5) rfl (by kernel_rfl) rfl fun K hK => ?_
  go_wp2_with fail
  refine (means_any tv _ n _ (unhide Htv) (small_items hn f.type)).mono ?_
  rintro e w3 ⟨rfl, hx3⟩
  have hS3 : Ext w1 w3 := hS2.trans hx3
  go_wp2
  refine hK.out _ _ (hS3) ?_
  clear hK K
  refine wpAnyX_one (j := 6) rfl (by kernel_rfl) rfl fun K hK => ?_
  go_wp2
  refine hK.out _ _ (hS3) ?_
  clear hK K
  refine wpAnyX_end [] [] rfl (by intro j i hj; simp at hj) (by kernel_rfl) (by intro i hi; simp at hi) fun K hK => ?_
  go_wp2
  refine hK.out _ _ ?_
  clear hK K
  have hE3 := hE1.trans hS3
  cases hm : ((findM ts f.type).getD TypeM.zero).items.any fun i => i.n == n
  · have Hr : Hid (R = 6) := by unfold Hid; rw [E4.out, hm]; rfl
    clear E4 E3
    go_wp2
    go_ret
    exact ⟨ret_int (unhide Hr).symm, hE3⟩
  · have Hr : Hid (R = 0) := by unfold Hid; rw [E4.out, hm]; rfl
    clear E4 E3
    go_wp2
    go_ret
    exact ⟨ret_int (unhide Hr).symm, hE3⟩
end Go.Proofs.YtmdpdgldmedebaaGreatDoor

