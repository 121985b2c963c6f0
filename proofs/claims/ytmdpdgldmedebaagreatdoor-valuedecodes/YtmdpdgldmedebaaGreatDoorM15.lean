import Derived.Test.YtmdpdgldmedebaaGreatDoorM14
namespace Go.Proofs.YtmdpdgldmedebaaGreatDoor
set_option linter.unusedSimpArgs false
set_option linter.unusedVariables false
set_option linter.unusedSimpArgs false
set_option linter.unusedVariables false
open Go.RowKit

/-- What Least answers. -/
def leastA (ts : BookM) (name : ByteArray) : ValueM := if msgE ts name = 0 then leastV ts 4 (msgT ts name) else ValueM.zero
theorem zeroAt (S : Nat → Prop) (k : Nat) (w : World) : ValueAtP S (k + 1) w [.int .i64 0, .int .i64 0, .string ⟨#[]⟩, .slice none 0 0, .slice none 0 0] ValueM.zero := leafAt S k w 0 0
theorem ValueAtP.set5 {S : Nat → Prop} {k : Nat} {w : World} {cs : List Value} {v : ValueM} (h : ValueAtP S k w cs v) {g : Nat} (hg : ∀ b, S b → b ≠ g) (u0 u1 u2 u3 u4 : Value) :
    ValueAtP S k (((((w.setCell ⟨g, 0, none⟩ u0).setCell ⟨g, 1, none⟩ u1).setCell ⟨g, 2, none⟩ u2).setCell ⟨g, 3, none⟩ u3).setCell ⟨g, 4, none⟩ u4) cs v :=
  h.keep fun b ob hb hob => by
    have hne := hg b hb
    rw [heap_setCell_other _ _ _ _ hne, heap_setCell_other _ _ _ _ hne, heap_setCell_other _ _ _ _ hne, heap_setCell_other _ _ _ _ hne, heap_setCell_other _ _ _ _ hne]; exact hob

set_option maxHeartbeats 3200000 in
theorem least_value (sb : SV) (ts : BookM) (name : ByteArray) (w : World) (hb : BookAt w sb ts) (hw : WordsAt w) (hn : ts.Fits) :
    Calls Tryz.prog 8 #[.agg #[.slice sb.a sb.len sb.cap], .string name] w fun e w' => ∃ ids l : SV, e = .returned (.tuple #[.agg #[.int .i64 (leastA ts name).kind, .int .i64 (leastA ts name).n, .string (leastA ts name).s, .slice ids.a ids.len ids.cap, .slice l.a l.len l.cap], .int .i64 (msgE ts name)]) ∧ ValueAtP (Btw w w') 5 w' [.int .i64 (leastA ts name).kind, .int .i64 (leastA ts name).n, .string (leastA ts name).s, .slice ids.a ids.len ids.cap, .slice l.a l.len l.cap] (leastA ts name) ∧ Ext w w' := by
  obtain ⟨w0, hw0⟩ : ∃ w0, w0 = (w.alloc (.cells #[.slice sb.a sb.len sb.cap] 24)).alloc (.cells #[.int .i64 0, .int .i64 0, .string ⟨#[]⟩, .slice none 0 0, .slice none 0 0] 28) := ⟨_, rfl⟩
  obtain ⟨hx0, hz, r0, r1⟩ := heaps2 hw0
  have HW0 := hide hw0
  clear hw0
  have Hb := hide (hb.ext hx0)
  have Hw := hide (hw.ext hx0)
  have b0 : w0.cell? ⟨w.heap.size, 0, none⟩ = some (.slice sb.a sb.len sb.cap) := cell_of_row _ _ 0 _ _ _ r0
  have E1 : Hid (msgE ts name = 0 → leastA ts name = leastV ts 4 (msgT ts name)) := fun h => if_pos h
  have E2 : Hid (¬ msgE ts name = 0 → leastA ts name = ValueM.zero) := fun h => if_neg h
  have HS := hide (@msg_small ts name)
  have HL := hide (@msg_le ts name)
  generalize leastA ts name = x at *
  generalize hme : msgE ts name = m at *
  generalize hmt : msgT ts name = T at *
  have Hme := hide hme
  have Hmt := hide hmt
  clear hb hw hme hmt
  have HSm : Hid (m = 0 → ts.Small) := fun h => (unhide HS h).1
  clear HS
  go_enter Tryz.func8, Tryz.ntmps8
  go_wp2_with fail
  rw [← unhide HW0]
  refine (messageOf_any sb ts name w0 (unhide Hb) (unhide Hw) hn).mono ?_
  rw [unhide Hme, unhide Hmt]
  rintro e w1 ⟨tv, rfl, htv, hx1, _⟩
  have z0 := lt_of_heap (hx1.heap r0)
  have hE1 := hx0.trans hx1
  have R1 := hx1.heap r1
  obtain ⟨c0, c1, c2, c3, c4, _⟩ := row5 R1
  have z1 := lt_of_heap R1
  have d0 := hx1.cell b0
  have Htv := hide htv
  clear htv
  by_cases hm : m = 0
  case neg =>
    have Hx := hide (unhide E2 hm)
    have hmb : (m != 0) = true := by simpa using hm
    clear E1 E2 HSm HL
    go_wp2
    refine bodyPost_ret (v := .tuple #[.agg #[.int .i64 0, .int .i64 0, .string ⟨#[]⟩, .slice none 0 0, .slice none 0 0], .int .i64 m]) ?_ rfl ?_
    · simp [results, Tryz.results8, go_sem, c0, c1, c2, c3, c4, z1]
    · rw [unhide Hx]
      exact ⟨⟨none, 0, 0⟩, ⟨none, 0, 0⟩, rfl, zeroAt _ _ _, (hE1.setCell5 (by omega) _ _ _ _ _).alloc _⟩
  have Hx := hide (unhide E1 hm)
  have hsm := unhide HSm hm
  have hle := unhide HL hm
  have hmb : (m != 0) = false := by simp [hm]
  have Hm := hide hm
  clear E1 E2 HSm HL hm
  have hx2 : Ext w1 (w1.alloc (.cells #[.string tv.name, .bool tv.enum, .slice tv.fields.a tv.fields.len tv.fields.cap, .slice tv.gone.a tv.gone.len tv.gone.cap, .slice tv.items.a tv.items.len tv.items.cap] 50)) := (Ext.refl w1).alloc _
  go_wp2_with fail
  refine (leastMessage_any sb ts hsm 4 tv T _ ((unhide Hb).ext (hx1.trans hx2)) ((unhide Htv).ext hx2) hle).mono ?_
  rintro e w3 ⟨ids, l, rfl, hv3, hx3⟩
  rw [← unhide Hx] at hv3 ⊢
  have h13 := hx2.trans hx3
  have R3 := h13.heap R1
  clear c0 c1 c2 c3 c4
  obtain ⟨c0, c1, c2, c3, c4, _⟩ := row5 R3
  have z3 := lt_of_heap R3
  have Hv3 := hide hv3
  clear hv3
  go_wp2
  refine bodyPost_ret (v := .tuple #[.agg #[.int .i64 x.kind, .int .i64 x.n, .string x.s, .slice ids.a ids.len ids.cap, .slice l.a l.len l.cap], .int .i64 0]) ?_ rfl ⟨ids, l, by rw [unhide Hm], ?_, (hE1.trans h13).setCell5 (by omega) _ _ _ _ _⟩
  · simp [results, Tryz.results8, go_sem, c0, c1, c2, c3, c4, z3]
  · refine ((unhide Hv3).set5 (g := w.heap.size + 1) (fun b hb => ?_) _ _ _ _ _).sub fun b hb => ⟨?_, by simpa using hb.2⟩
    · have h1 := hb.1
      simp at h1
      omega
    · have h1 := hb.1
      simp at h1
      have := hE1.size
      omega
end Go.Proofs.YtmdpdgldmedebaaGreatDoor

namespace Go.Proofs.YtmdpdgldmedebaaGreatDoor
set_option linter.unusedSimpArgs false
set_option linter.unusedVariables false
open Go.RowKit

def insAt {α : Type} (l : List α) (i : Nat) (x : α) : List α := l.take i ++ x :: l.drop i
theorem insAt_end {α : Type} (l : List α) (x : α) : insAt l l.length x = l ++ [x] := by unfold insAt; simp
theorem insAt_len {α : Type} (l : List α) (i : Nat) (x : α) (h : i ≤ l.length) : (insAt l i x).length = l.length + 1 := by unfold insAt; simp; omega
/-- How many of a sorted list are less: so far they stand. -/
theorem count_take {l : List Int} (h : l.Pairwise (· ≤ ·)) (x : Int) : (∀ y ∈ l.take (l.countP (· < x)), y < x) ∧ ∀ y ∈ l.drop (l.countP (· < x)), x ≤ y := by
  induction l with
  | nil => exact ⟨fun y hy => by simp at hy, fun y hy => by simp at hy⟩
  | cons a r ih =>
    rw [List.pairwise_cons] at h
    obtain ⟨i1, i2⟩ := ih h.2
    by_cases ha : a < x
    · rw [List.countP_cons_of_pos (by simpa using ha)]
      refine ⟨fun y hy => ?_, fun y hy => ?_⟩
      · rw [List.take_succ_cons] at hy
        rcases List.mem_cons.1 hy with rfl | hy
        · exact ha
        · exact i1 y hy
      · rw [List.drop_succ_cons] at hy
        exact i2 y hy
    · rw [List.countP_cons_of_neg (by simpa using ha)]
      have h0 : r.countP (· < x) = 0 := by
        rw [List.countP_eq_zero]
        intro y hy
        have := h.1 y hy
        simp; omega
      rw [h0]
      refine ⟨fun y hy => by simp at hy, fun y hy => ?_⟩
      rw [List.drop_zero] at hy
      rcases List.mem_cons.1 hy with rfl | hy
      · omega
      · have := h.1 y hy; omega
theorem insAt_sorted {l : List Int} (h : l.Pairwise (· ≤ ·)) (x : Int) : (insAt l (l.countP (· < x)) x).Pairwise (· ≤ ·) := by
  obtain ⟨h1, h2⟩ := count_take h x
  have hs : (l.take (l.countP (· < x)) ++ l.drop (l.countP (· < x))).Pairwise (· ≤ ·) := by rw [List.take_append_drop]; exact h
  rw [List.pairwise_append] at hs
  unfold insAt
  rw [List.pairwise_append]
  refine ⟨hs.1, List.pairwise_cons.2 ⟨h2, hs.2.1⟩, fun a ha b hb => ?_⟩
  rcases List.mem_cons.1 hb with rfl | hb
  · have := h1 a ha; omega
  · exact hs.2.2 a ha b hb
/-- What lacks is put in. -/
def fillStep (lf : FieldM → ValueM) (p : List Int × List ValueM) (f : FieldM) : List Int × List ValueM :=
  if f.rule = 1 ∧ p.1.contains f.id = false then (insAt p.1 (p.1.countP (· < f.id)) f.id, insAt p.2 (p.1.countP (· < f.id)) (lf f)) else p
def fillM (lf : FieldM → ValueM) (l : List FieldM) (p : List Int × List ValueM) : List Int × List ValueM := l.foldl (fillStep lf) p
theorem fill_all {lf : FieldM → ValueM} : ∀ {l : List FieldM} {p : List Int × List ValueM}, (∀ f ∈ l, f.rule = 1 → p.1.contains f.id = true) → fillM lf l p = p
  | [], _, _ => rfl
  | f :: r, p, h => by
    show fillM lf r (fillStep lf p f) = p
    have : fillStep lf p f = p := by
      unfold fillStep
      rw [if_neg]
      rintro ⟨h1, h2⟩
      rw [h f (by simp) h1] at h2; cases h2
    rw [this]
    exact fill_all fun g hg => h g (by simp [hg])

open Go.Lib in
theorem binSearch_any (s : SV) (l : List Int) (x : Int) (w : World) (hs : IntsAt w s l) (hb : l.length ≤ 1048576) (hp : l.Pairwise (· ≤ ·)) :
    Calls Tryz.prog 83 #[.slice s.a s.len s.cap, .int .i64 x] w fun e w' => e = .returned (.tuple #[.int .i64 (l.countP (· < x) : Nat), .bool (l.contains x)]) ∧ Ext w w' := by
  obtain ⟨a, n, c⟩ := s
  have hl := hs.1
  simp only at hl
  subst hl
  by_cases h0 : l.length = 0
  · have : l = [] := List.length_eq_zero_iff.1 h0
    subst this
    refine (Tryz.slices_BinarySearch_int_empty a c x w).mono ?_
    rintro e w' ⟨rfl, rfl⟩
    exact ⟨rfl, Ext.refl _⟩
  · obtain ⟨b, o, cs, ha, _, _⟩ := hs.2 0 l[0] (List.getElem?_eq_getElem (by omega))
    simp only at ha
    subst ha
    refine (Tryz.slices_BinarySearch_int b o l.length c l x w (Nat.le_refl _) (by omega) (fun j hj => ?_) (by rw [List.take_length]; exact hp)).mono ?_
    · obtain ⟨b', o', h1, h2⟩ := hs.cell hj
      simp only [Option.some.injEq, Addr.mk.injEq] at h1
      obtain ⟨rfl, rfl, _⟩ := h1
      rw [h2]
      simp [List.getD, hj]
    · rintro e w' ⟨rfl, q, rfl⟩
      rw [List.take_length]
      exact ⟨rfl, (Ext.refl w).drewN q⟩
end Go.Proofs.YtmdpdgldmedebaaGreatDoor

