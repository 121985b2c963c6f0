import Derived.Test.YtmdpdgldmedebaaGreatDoorM22
import Derived.Deep.QuietTactic
import Derived.BigQuiet
namespace Go.Proofs.YtmdpdgldmedebaaGreatDoor
set_option linter.unusedSimpArgs false
set_option linter.unusedVariables false
set_option linter.unusedSimpArgs false
set_option linter.unusedVariables false
open Go.RowKit

/-- What read does, of a message that may have so many messages one in another in it. -/
def RD (sb : SV) (ts : BookM) (k : Nat) : Prop := ∀ (tv : TV) (t : TypeM) (s : ByteArray) (w : World), BookAt w sb ts → TypeAt w tv t → Msg ts t → s.size ≤ 9223372036854775807 →
  Calls Tryz.prog 40 #[.agg #[.slice sb.a sb.len sb.cap], .agg #[.string tv.name, .bool tv.enum, .slice tv.fields.a tv.fields.len tv.fields.cap, .slice tv.gone.a tv.gone.len tv.gone.cap, .slice tv.items.a tv.items.len tv.items.cap], .string s, .int .i64 (24 - (k : Int))] w fun e w' => ∃ ids l : SV, e = .returned (.tuple #[.agg #[.int .i64 (readM ts k t s).2.kind, .int .i64 (readM ts k t s).2.n, .string (readM ts k t s).2.s, .slice ids.a ids.len ids.cap, .slice l.a l.len l.cap], .int .i64 (readM ts k t s).1]) ∧
    ValueAtP (Btw w w') (k + 6) w' [.int .i64 (readM ts k t s).2.kind, .int .i64 (readM ts k t s).2.n, .string (readM ts k t s).2.s, .slice ids.a ids.len ids.cap, .slice l.a l.len l.cap] (readM ts k t s).2 ∧ Ext w w'
/-- .. and readWithin. -/
def RW (sb : SV) (ts : BookM) (k : Nat) : Prop := ∀ (f : FieldM) (s : ByteArray) (w : World), BookAt w sb ts → Msg ts (typeM ts f) → s.size ≤ 9223372036854775807 →
  Calls Tryz.prog 61 #[.agg #[.slice sb.a sb.len sb.cap], .agg #[.int .i64 f.id, .string f.name, .string f.type, .int .i64 f.kind, .int .i64 f.rule], .string s, .int .i64 (24 - (k : Int) + 1)] w fun e w' => ∃ ids l : SV, e = .returned (.tuple #[.agg #[.int .i64 (recM ts k f s).2.kind, .int .i64 (recM ts k f s).2.n, .string (recM ts k f s).2.s, .slice ids.a ids.len ids.cap, .slice l.a l.len l.cap], .int .i64 (recM ts k f s).1]) ∧
    ValueAtP (Btw w w') (k + 5) w' [.int .i64 (recM ts k f s).2.kind, .int .i64 (recM ts k f s).2.n, .string (recM ts k f s).2.s, .slice ids.a ids.len ids.cap, .slice l.a l.len l.cap] (recM ts k f s).2 ∧ Ext w w'

theorem zeroAtP (S : Nat → Prop) (k : Nat) (w : World) : ValueAtP S (k + 1) w [.int .i64 0, .int .i64 0, .string ⟨#[]⟩, .slice none 0 0, .slice none 0 0] ValueM.zero := leafAt S k w 0 0

set_option maxHeartbeats 3200000 in
set_option maxRecDepth 10000 in
theorem readWithin_zero (sb : SV) (ts : BookM) : RW sb ts 0 := by
  intro f s w hb hm hs
  have e1 : recM ts 0 f s = (7, ValueM.zero) := rfl
  rw [e1]
  obtain ⟨w0, hw0⟩ : ∃ w0, w0 = ((w.alloc (.cells #[.slice sb.a sb.len sb.cap] 24)).alloc (.cells #[.int .i64 f.id, .string f.name, .string f.type, .int .i64 f.kind, .int .i64 f.rule] 56)).alloc (.cells #[.int .i64 0, .int .i64 0, .string ⟨#[]⟩, .slice none 0 0, .slice none 0 0] 28) := ⟨_, rfl⟩
  obtain ⟨hx0, hz, r0, r1, r2⟩ := heaps3 hw0
  obtain ⟨c0, c1, c2, c3, c4, cf⟩ := row5 r2
  have z0 := lt_of_heap r2
  have HW0 := hide hw0
  clear hw0 e1 hb
  go_enter Tryz.func61, Tryz.ntmps61
  go_wp2
  rw [← unhide HW0]
  refine bodyPost_ret (v := .tuple #[.agg #[.int .i64 0, .int .i64 0, .string ⟨#[]⟩, .slice none 0 0, .slice none 0 0], .int .i64 7]) ?_ rfl ⟨⟨none, 0, 0⟩, ⟨none, 0, 0⟩, rfl, zeroAtP _ _ _, hx0⟩
  simp [results, Tryz.results61, go_sem, c0, c1, c2, c3, c4, z0]

set_option maxHeartbeats 3200000 in
set_option maxRecDepth 10000 in
theorem readWithin_succ (sb : SV) (ts : BookM) (hn : ts.Small) (k : Nat) (hk : k < 24) (hR : RD sb ts k) : RW sb ts (k + 1) := by
  intro f s w hb hm hs
  have e1 : recM ts (k + 1) f s = readM ts k (typeM ts f) s := rfl
  rw [e1]
  obtain ⟨w0, hw0⟩ : ∃ w0, w0 = ((w.alloc (.cells #[.slice sb.a sb.len sb.cap] 24)).alloc (.cells #[.int .i64 f.id, .string f.name, .string f.type, .int .i64 f.kind, .int .i64 f.rule] 56)).alloc (.cells #[.int .i64 0, .int .i64 0, .string ⟨#[]⟩, .slice none 0 0, .slice none 0 0] 28) := ⟨_, rfl⟩
  obtain ⟨hx0, hz, r0, r1, r2⟩ := heaps3 hw0
  have b0 : w0.cell? ⟨w.heap.size, 0, none⟩ = some (.slice sb.a sb.len sb.cap) := cell_of_row _ _ 0 _ _ _ r0
  obtain ⟨f0, f1, f2, f3, f4, _⟩ := row5 r1
  have HW0 := hide hw0
  have Hb := hide (hb.ext hx0)
  have HR := hide hR
  have Hm := hide hm
  have hdep : (24 : Int) - ((k + 1 : Nat) : Int) + 1 = 24 - (k : Int) := by omega
  rw [hdep]
  have hcmp : decide (24 < 24 - (k : Int)) = false := by simp; omega
  obtain ⟨D, hD⟩ : ∃ D : Int, D = 24 - (k : Int) := ⟨_, rfl⟩
  have hD2 : ¬ 24 < D := by omega
  have HD := hide hD
  rw [← hD]
  clear hw0 e1 hb hR hm hdep hcmp hD
  obtain ⟨r, hr⟩ : ∃ r, r = readM ts k (typeM ts f) s := ⟨_, rfl⟩
  rw [← hr]
  have Hr := hide hr
  clear hr
  go_enter Tryz.func61, Tryz.ntmps61
  go_wp2_with fail
  rw [← unhide HW0]
  have hS0 : Ext w0 w0.drew := (Ext.refl w0).drew
  refine wp_region_X (fun w' => Ext w0 w') (fun j => decide (9 ≤ j)) (by kernel_rfl) ?_
  refine wpAnyX_take (i := 0) (v := .agg #[.slice sb.a sb.len sb.cap]) rfl (by kernel_rfl) (by kernel_rfl) (fun _ _ _ h => h) (.inl ⟨rfl, fun w' hS => by simp [execOp, go_sem, hS.cell b0]⟩) (hS0) ?_
  simp only [Act.put, List.getElem_toArray, List.getElem_cons_zero, List.getElem_cons_succ, List.setIfInBounds_toArray, List.set_cons_succ, List.set_cons_zero]
  refine wpAnyX_take (i := 1) (v := .agg #[.slice sb.a sb.len sb.cap]) rfl (by kernel_rfl) (by kernel_rfl) (fun _ _ _ h => h) (.inl ⟨rfl, fun w' hS => by simp [execOp, go_sem, hS.cell b0]⟩) (hS0) ?_
  simp only [Act.put, List.getElem_toArray, List.getElem_cons_zero, List.getElem_cons_succ, List.setIfInBounds_toArray, List.set_cons_succ, List.set_cons_zero]
  refine wpAnyX_take (i := 2) (v := .agg #[.int .i64 f.id, .string f.name, .string f.type, .int .i64 f.kind, .int .i64 f.rule]) rfl (by kernel_rfl) (by kernel_rfl) (fun _ _ _ h => h) (.inl ⟨rfl, fun w' hS => by simp [execOp, go_sem, hS.cell f0, hS.cell f1, hS.cell f2, hS.cell f3, hS.cell f4]⟩) (hS0) ?_
  simp only [Act.put, List.getElem_toArray, List.getElem_cons_zero, List.getElem_cons_succ, List.setIfInBounds_toArray, List.set_cons_succ, List.set_cons_zero]
  refine wpAnyX_take (i := 4) (v := .string s) rfl (by kernel_rfl) (by kernel_rfl) (fun _ _ _ h => h) (.inl ⟨rfl, fun w' hS => by simp [execOp, go_sem]⟩) (hS0) ?_
  simp only [Act.put, List.getElem_toArray, List.getElem_cons_zero, List.getElem_cons_succ, List.setIfInBounds_toArray, List.set_cons_succ, List.set_cons_zero]
  refine wpAnyX_take (i := 5) (v := .int .i64 D) rfl (by kernel_rfl) (by kernel_rfl) (fun _ _ _ h => h) (.inl ⟨rfl, fun w' hS => by simp [execOp, go_sem]⟩) (hS0) ?_
  simp only [Act.put, List.getElem_toArray, List.getElem_cons_zero, List.getElem_cons_succ, List.setIfInBounds_toArray, List.set_cons_succ, List.set_cons_zero]
  refine wpAnyX_one (j := 3) rfl (by kernel_rfl) rfl fun K hK => ?_
  go_wp2_with fail
  refine (typeOf_any sb ts f w0.drew ((unhide Hb).ext hS0) hn).mono ?_
  rintro e w1 ⟨tv, rfl, htv, hx1, _⟩
  have hS1 : Ext w0 w1 := hS0.trans hx1
  have Htv := hide htv
  clear htv
  go_wp2
  refine hK.out _ _ (hS1) ?_
  clear hK K
  refine wpAnyX_one (j := 6) rfl (by kernel_rfl) rfl fun K hK => ?_
  go_wp2_with fail
  rw [unhide HD]
  refine (unhide HR tv _ s w1 ((unhide Hb).ext hS1) (unhide Htv) (unhide Hm) hs).mono ?_
  rintro e w2 ⟨ids, l, rfl, hv2, hx2⟩
  have hS2 : Ext w0 w2 := hS1.trans hx2
  rw [show readM ts k ((findM ts f.type).getD TypeM.zero) s = r from (unhide Hr).symm] at hv2 ⊢
  obtain ⟨R, x⟩ := r
  simp only at hv2 ⊢
  have R2 := hS2.heap r2
  obtain ⟨c0, c1, c2, c3, c4, cf⟩ := row5 R2
  have z2 := lt_of_heap R2
  have Hv2 := hide hv2
  clear hv2
  go_wp2
  refine hK.out _ _ (hS2) ?_
  clear hK K
  refine wpAnyX_take (i := 7) (v := .agg #[.int .i64 x.kind, .int .i64 x.n, .string x.s, .slice ids.a ids.len ids.cap, .slice l.a l.len l.cap]) rfl (by kernel_rfl) (by kernel_rfl) (fun _ _ _ h => h) (.inl ⟨rfl, fun w' hS => by simp [execOp, go_sem]⟩) (hS2) ?_
  simp only [Act.put, List.getElem_toArray, List.getElem_cons_zero, List.getElem_cons_succ, List.setIfInBounds_toArray, List.set_cons_succ, List.set_cons_zero]
  refine wpAnyX_take (i := 8) (v := .int .i64 R) rfl (by kernel_rfl) (by kernel_rfl) (fun _ _ _ h => h) (.inl ⟨rfl, fun w' hS => by simp [execOp, go_sem]⟩) (hS2) ?_
  simp only [Act.put, List.getElem_toArray, List.getElem_cons_zero, List.getElem_cons_succ, List.setIfInBounds_toArray, List.set_cons_succ, List.set_cons_zero]
  refine wpAnyX_end [9, 10] [_, _] rfl (by intro j i hj; match j, hj with | 0, hj => cases hj; rfl | 1, hj => cases hj; rfl) (by kernel_rfl) (by intro i hi; cases hi; rfl) fun K hK => ?_
  go_wp2
  refine hK.out _ _ ?_
  clear hK K
  go_wp2
  refine bodyPost_ret (v := .tuple #[.agg #[.int .i64 x.kind, .int .i64 x.n, .string x.s, .slice ids.a ids.len ids.cap, .slice l.a l.len l.cap], .int .i64 R]) ?_ rfl ⟨ids, l, rfl, ?_, (hx0.trans hS2).setCell5 (by omega) _ _ _ _ _⟩
  · simp [results, Tryz.results61, go_sem, c0, c1, c2, c3, c4, z2]
  · have hz1 : w0.heap.size ≤ w1.heap.size := hS1.size
    refine (((unhide Hv2).set5 (g := w.heap.size + 1 + 1) (fun b hb => ?_) _ _ _ _ _).sub fun b hb => ⟨?_, by simpa using hb.2⟩)
    · have h1 := hb.1
      omega
    · have h1 := hb.1
      omega
end Go.Proofs.YtmdpdgldmedebaaGreatDoor

namespace Go.Proofs.YtmdpdgldmedebaaGreatDoor
set_option linter.unusedSimpArgs false
set_option linter.unusedVariables false
open Go.RowKit

def prevP (ps : List PartM) (j : Nat) : Option Int := if j = 0 then none else (ps[j - 1]?).map (·.id)
theorem prevP_succ {ps : List PartM} {j : Nat} (h : j < ps.length) : prevP ps (j + 1) = some ps[j].id := by
  unfold prevP
  rw [if_neg (by omega)]
  simp [h]
theorem parts_len : ∀ {ps : List PartM}, (∀ p ∈ ps, p.good) → ps.length ≤ (ps.flatMap partB).length
  | [], _ => Nat.zero_le _
  | p :: r, h => by
    have ih := parts_len (ps := r) fun q hq => h q (by simp [hq])
    have h1 := partB_len (h p (by simp))
    rw [List.flatMap_cons, List.length_append, List.length_cons]; omega
theorem parts_small {l : List UInt8} (h : decE l = 0) : (decL l).length ≤ 20000 ∧ ∀ p ∈ decL l, p.s.size ≤ 20000 := by
  obtain ⟨h1, h2, h3⟩ := decL_good h
  refine ⟨?_, fun p hp => ?_⟩
  · have := parts_len h2
    rw [← h3] at this; omega
  · rcases (h2 p hp).2.2 with ⟨_, _, _, e⟩ | ⟨_, _, e⟩
    · rw [e]; decide
    · exact e
theorem readL_step {ts : BookM} {rec : FieldM → ByteArray → Int × ValueM} {t : TypeM} {ps : List PartM} {j : Nat} {prev : Option Int} {st : List Int × List ValueM} (h : j < ps.length) :
    readL ts rec t prev (ps.drop j) st = if stepE ts rec t prev ps[j] st ≠ 0 then (stepE ts rec t prev ps[j] st, ([], [])) else readL ts rec t (prevP ps (j + 1)) (ps.drop (j + 1)) (stepV rec t ps[j] st) := by
  rw [List.drop_eq_getElem_cons h, readL, prevP_succ h]
/-- What a part may be. -/
theorem step_fell {ts : BookM} {rec : FieldM → ByteArray → Int × ValueM} {t : TypeM} {prev : Option Int} {p : PartM} {st : List Int × List ValueM} (h : fellB prev p.id = true) : stepE ts rec t prev p st = 1 := by
  unfold stepE; rw [if_pos h]
theorem step_past {ts : BookM} {rec : FieldM → ByteArray → Int × ValueM} {t : TypeM} {prev : Option Int} {p : PartM} {st : List Int × List ValueM} (h : fellB prev p.id = false) (hf : (fieldM t p.id).isSome = false) : stepE ts rec t prev p st = 0 ∧ stepV rec t p st = st := by
  unfold stepE stepV
  cases hm : fieldM t p.id with
  | some f => rw [hm] at hf; cases hf
  | none => rw [if_neg (by simp [h])]; exact ⟨rfl, rfl⟩
theorem step_field {ts : BookM} {rec : FieldM → ByteArray → Int × ValueM} {t : TypeM} {prev : Option Int} {p : PartM} {st : List Int × List ValueM} {f : FieldM} (h : fellB prev p.id = false) (hf : fieldM t p.id = some f) :
    (wrongOneN ts f (bareM p).kind (bareM p).n (bareM p).s 0 0 ≠ 0 → stepE ts rec t prev p st = wrongOneN ts f (bareM p).kind (bareM p).n (bareM p).s 0 0) ∧
    (wrongOneN ts f (bareM p).kind (bareM p).n (bareM p).s 0 0 = 0 → f.rule ≠ 3 → st.1.contains f.id = true → stepE ts rec t prev p st = 4) ∧
    (wrongOneN ts f (bareM p).kind (bareM p).n (bareM p).s 0 0 = 0 → (f.rule = 3 ∨ st.1.contains f.id = false) → f.kind = 5 → stepE ts rec t prev p st = (rec f p.s).1 ∧ stepV rec t p st = (st.1 ++ [f.id], st.2 ++ [(rec f p.s).2])) ∧
    (wrongOneN ts f (bareM p).kind (bareM p).n (bareM p).s 0 0 = 0 → (f.rule = 3 ∨ st.1.contains f.id = false) → f.kind ≠ 5 → stepE ts rec t prev p st = 0 ∧ stepV rec t p st = (st.1 ++ [f.id], st.2 ++ [bareM p])) := by
  unfold stepE stepV
  rw [if_neg (by simp [h]), hf]
  simp only
  refine ⟨fun h1 => by rw [if_pos h1], fun h1 h2 h3 => by rw [if_neg (by simp [h1]), if_pos ⟨h2, h3⟩], fun h1 h2 h5 => ?_, fun h1 h2 h5 => ?_⟩
  · have hn : ¬ (f.rule ≠ 3 ∧ st.1.contains f.id = true) := by rintro ⟨a, b⟩; rcases h2 with h2 | h2; exact a h2; rw [h2] at b; cases b
    rw [if_neg (by simp [h1]), if_neg hn, if_pos h5, if_pos h5]; exact ⟨rfl, rfl⟩
  · have hn : ¬ (f.rule ≠ 3 ∧ st.1.contains f.id = true) := by rintro ⟨a, b⟩; rcases h2 with h2 | h2; exact a h2; rw [h2] at b; cases b
    rw [if_neg (by simp [h1]), if_neg hn, if_neg h5, if_neg h5]; exact ⟨rfl, rfl⟩
theorem pw_snoc {l : List Int} {x : Int} (h : l.Pairwise (· ≤ ·)) (hx : ∀ a ∈ l, a ≤ x) : (l ++ [x]).Pairwise (· ≤ ·) := by
  rw [List.pairwise_append]
  exact ⟨h, List.pairwise_singleton _ _, fun a ha b hb => by rw [List.mem_singleton] at hb; rw [hb]; exact hx a ha⟩
end Go.Proofs.YtmdpdgldmedebaaGreatDoor

