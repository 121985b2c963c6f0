import Derived.Test.YtnppgeiompimaaaGreatDoorM30
namespace Go.Proofs.YtnppgeiompimaaaGreatDoor
set_option linter.unusedSimpArgs false
set_option linter.unusedVariables false
set_option linter.unusedSimpArgs false
set_option linter.unusedVariables false
open Go.RowKit

theorem heaps3c {w w0 : World} {a b c : Obj} (h : w0 = ((w.alloc a).alloc b).alloc c) : Ext w w0 ∧ w0.heap.size = w.heap.size + 3 ∧ w0.heap[w.heap.size]? = some a ∧ w0.heap[w.heap.size + 1]? = some b ∧ w0.heap[w.heap.size + 1 + 1]? = some c := by
  subst h
  refine ⟨(((Ext.refl w).alloc _).alloc _).alloc _, by simp, (((Ext.refl _).alloc _).alloc _).heap (heap_alloc_new w a), ((Ext.refl _).alloc _).heap ?_, ?_⟩
  · have := heap_alloc_new (w.alloc a) b
    simpa using this
  · have := heap_alloc_new ((w.alloc a).alloc b) c
    simpa using this
theorem int_at {w : World} {s : SV} {l : List Int} (h : IntsAt w s l) {i : Nat} (hi : i < l.length) : ∃ b o, s.a = some ⟨b, o, none⟩ ∧ w.cell? ⟨b, o + i, none⟩ = some (.int .i64 l[i]) := by
  obtain ⟨b, o, cs, h1, h2, h3⟩ := h.2 i l[i] (by simp [hi])
  subst h3
  exact ⟨b, o, h1, by have := h2 0 _ rfl; simpa using this⟩
theorem samples_len {ts : BookM} {f : FieldM} (h : (typeM ts f).items.length ≤ 1000) : (samplesL ts f).length ≤ 1000 := by
  unfold samplesL
  split
  · simp
  · split
    · simpa using h
    · simp
theorem find_drop {l : List Int} {p : Int → Bool} {j : Nat} (h : j < l.length) : (l.drop j).find? p = if p l[j] = true then some l[j] else (l.drop (j + 1)).find? p := by
  rw [List.drop_eq_getElem_cons h, List.find?_cons]
  cases p l[j] <;> rfl
set_option maxHeartbeats 6400000 in
set_option maxRecDepth 10000 in
theorem strange1_any (s1 s2 : SV) (ws rs : BookM) (f g : FieldM) (w : World) (h1 : BookAt w s1 ws) (h2 : BookAt w s2 rs) (n1 : ws.Small) (n2 : rs.Small) (hi : (typeM ws f).items.length ≤ 1000) (hi2 : (typeM rs g).items.length ≤ 1000) (hk : g.kind = 1) :
    Calls Tryz.prog 81 #[.agg #[.slice s1.a s1.len s1.cap, .slice s2.a s2.len s2.cap], .agg #[.int .i64 f.id, .string f.name, .string f.type, .int .i64 f.kind, .int .i64 f.rule], .agg #[.int .i64 g.id, .string g.name, .string g.type, .int .i64 g.kind, .int .i64 g.rule]] w fun e w' => e = .returned (.tuple #[.int .i64 ((strangeM ws rs f g).getD 0), .bool (strangeM ws rs f g).isSome]) ∧ Ext w w' := by
  obtain ⟨W, hW⟩ : ∃ W, W = ((w.alloc (.cells #[.slice s1.a s1.len s1.cap, .slice s2.a s2.len s2.cap] 52)).alloc (.cells #[.int .i64 f.id, .string f.name, .string f.type, .int .i64 f.kind, .int .i64 f.rule] 70)).alloc (.cells #[.int .i64 g.id, .string g.name, .string g.type, .int .i64 g.kind, .int .i64 g.rule] 70) := ⟨_, rfl⟩
  obtain ⟨hxW, hzW, r0, r1, r2⟩ := heaps3c hW
  have HH := fun w' (hx : Ext w w') => holder1_any s2 g w' hk
  have HS := fun w' (hx : Ext w w') => samples_any s1 ws f w' (h1.ext hx) n1 hi
  have hsl := samples_len hi
  have E0 : Hid (kindN f.kind ≠ 0 ∨ kindN g.kind ≠ 0 → strangeM ws rs f g = none) := fun h => by unfold strangeM; rw [if_pos h]
  have E1 : Hid (kindN f.kind = 0 → kindN g.kind = 0 → strangeM ws rs f g = (samplesL ws f).find? fun n => !hasB rs g n) := fun a b => by unfold strangeM; rw [if_neg (by simp [a, b])]
  have HB : Hid (∀ n, (decide (n = 0) || decide (n = 1)) = hasB rs g n) := fun n => by unfold hasB; rw [if_pos hk]
  generalize hasB rs g = hb at *
  generalize samplesL ws f = L at *
  generalize strangeM ws rs f g = sM at *
  have HK1 := kind_any f.kind
  have HK2 := kind_any g.kind
  generalize kindN f.kind = k1 at *
  generalize kindN g.kind = k2 at *
  have HH := hide HH
  have HS := hide HS
  have HW := hide hW
  obtain ⟨a0, a1, _⟩ := rowN2 r0
  obtain ⟨b0, b1, b2, b3, b4, _⟩ := rowN5 r1
  obtain ⟨c0, c1, c2, c3, c4, _⟩ := rowN5 r2
  clear hW h1 h2 n1 n2 r0 r1 r2 hk
  go_enter Tryz.func81, Tryz.ntmps81
  go_wp2_with fail
  rw [← unhide HW]
  refine (HK1 W).mono ?_
  rintro e w' ⟨rfl, hw'⟩
  rw [hw']
  clear hw' w'
  by_cases g1 : k1 = 0
  · subst g1
    go_wp2_with fail
    refine (HK2 W).mono ?_
    rintro e w' ⟨rfl, hw'⟩
    rw [hw']
    clear hw' w'
    by_cases g2 : k2 = 0
    · subst g2
      have hs := unhide E1 (by first | rfl | trivial) (by first | rfl | trivial)
      subst hs
      clear E0 E1 HK1 HK2
      go_wp2_with fail
      refine (unhide HH W hxW).mono ?_
      rintro e w1 ⟨rfl, x1⟩
      have a0 := x1.cell a0
      have a1 := x1.cell a1
      have b0 := x1.cell b0
      have b1 := x1.cell b1
      have b2 := x1.cell b2
      have b3 := x1.cell b3
      have b4 := x1.cell b4
      have f1 := hxW.trans x1
      have HC : Hid (∀ (n : Int) w', Ext w1 w' → Calls Tryz.prog 160 #[.int .i64 n] w' fun e w'' => e = .returned (.bool (hb n)) ∧ Ext w' w'') := fun n w' hx => (hold1_any n w').mono fun e w'' ⟨h, h'⟩ => ⟨by rw [h, unhide HB], by rw [h']; exact Ext.refl _⟩
      clear HB
      go_wp2_with fail
      refine (unhide HS w1 f1).mono ?_
      rintro e w2 ⟨sv, rfl, hs, x2⟩
      have hl := hs.1
      have hs := hide hs
      obtain ⟨sa, sl, sc⟩ := sv
      simp only at hl
      subst hl
      have f2 := f1.trans x2
      clear a0 a1 b0 b1 b2 b3 b4 c0 c1 c2 c3 c4 HH HS
      go_wp2
      go_loopw [30] (fun i wr => ∃ j : Nat, j ≤ L.length ∧ i = .int .i64 j ∧ L.find? (fun n => !hb n) = (L.drop j).find? (fun n => !hb n) ∧ Ext w2 wr) (fun i _ => L.length - (intOf i).toNat)
      case atStart => exact ⟨0, by omega, rfl, by rw [List.drop_zero], Ext.refl w2⟩
      case round =>
        obtain ⟨j, hj, rfl, hq, hE⟩ := hrel
        by_cases hlt : j < L.length
        · obtain ⟨ib, io, eia, hc⟩ := int_at (unhide hs) hlt
          have hc := hE.cell hc
          simp only at eia
          subst eia
          rw [find_drop hlt] at hq
          generalize L[j] = n at *
          have hC := unhide HC n wr (x2.trans hE)
          have Hq := hide hq
          clear hq
          go_wp2_with fail
          refine hC.mono ?_
          rintro e w3 ⟨rfl, x3⟩
          have hE3 := hE.trans x3
          cases hn : hb n with
          | true =>
            have hq := unhide Hq
            rw [hn] at hq
            go_wp2
            exact ⟨⟨j + 1, by omega, by go_num, hq, hE3⟩, by simp [intOf]; omega⟩
          | false =>
            have hq := unhide Hq
            rw [hn] at hq
            simp only [Bool.not_false, if_true] at hq
            go_wp2
            rw [hq]
            exact bodyPost_ret (v := .tuple #[.int .i64 n, .bool true]) (by simp [results, Tryz.results81, go_sem]) rfl ⟨rfl, f2.trans hE3⟩
        · have hje : j = L.length := by omega
          subst hje
          have hq : L.find? (fun n => !hb n) = none := by rw [hq, List.drop_length]; rfl
          go_wp2
          rw [hq]
          exact bodyPost_ret (v := .tuple #[.int .i64 0, .bool false]) (by simp [results, Tryz.results81, go_sem]) rfl ⟨rfl, f2.trans hE⟩
    · have hs := unhide E0 (.inr g2)
      subst hs
      clear E0 E1 HK1 HK2 HH HS HB
      go_wp2
      exact bodyPost_ret (v := .tuple #[.int .i64 0, .bool false]) (by simp [results, Tryz.results81, go_sem]) rfl ⟨rfl, hxW⟩
  · have hs := unhide E0 (.inl g1)
    subst hs
    clear E0 E1 HK1 HK2 HH HS HB
    go_wp2
    exact bodyPost_ret (v := .tuple #[.int .i64 0, .bool false]) (by simp [results, Tryz.results81, go_sem]) rfl ⟨rfl, hxW⟩
set_option maxHeartbeats 6400000 in
set_option maxRecDepth 10000 in
theorem strange2_any (s1 s2 : SV) (ws rs : BookM) (f g : FieldM) (w : World) (h1 : BookAt w s1 ws) (h2 : BookAt w s2 rs) (n1 : ws.Small) (n2 : rs.Small) (hi : (typeM ws f).items.length ≤ 1000) (hi2 : (typeM rs g).items.length ≤ 1000) (hk : g.kind = 4) :
    Calls Tryz.prog 81 #[.agg #[.slice s1.a s1.len s1.cap, .slice s2.a s2.len s2.cap], .agg #[.int .i64 f.id, .string f.name, .string f.type, .int .i64 f.kind, .int .i64 f.rule], .agg #[.int .i64 g.id, .string g.name, .string g.type, .int .i64 g.kind, .int .i64 g.rule]] w fun e w' => e = .returned (.tuple #[.int .i64 ((strangeM ws rs f g).getD 0), .bool (strangeM ws rs f g).isSome]) ∧ Ext w w' := by
  obtain ⟨W, hW⟩ : ∃ W, W = ((w.alloc (.cells #[.slice s1.a s1.len s1.cap, .slice s2.a s2.len s2.cap] 52)).alloc (.cells #[.int .i64 f.id, .string f.name, .string f.type, .int .i64 f.kind, .int .i64 f.rule] 70)).alloc (.cells #[.int .i64 g.id, .string g.name, .string g.type, .int .i64 g.kind, .int .i64 g.rule] 70) := ⟨_, rfl⟩
  obtain ⟨hxW, hzW, r0, r1, r2⟩ := heaps3c hW
  have HH := fun w' (hx : Ext w w') => holder2_any s2 rs g w' (h2.ext hx) n2 hk
  have HS := fun w' (hx : Ext w w') => samples_any s1 ws f w' (h1.ext hx) n1 hi
  have hsl := samples_len hi
  have E0 : Hid (kindN f.kind ≠ 0 ∨ kindN g.kind ≠ 0 → strangeM ws rs f g = none) := fun h => by unfold strangeM; rw [if_pos h]
  have E1 : Hid (kindN f.kind = 0 → kindN g.kind = 0 → strangeM ws rs f g = (samplesL ws f).find? fun n => !hasB rs g n) := fun a b => by unfold strangeM; rw [if_neg (by simp [a, b])]
  have HB : Hid (∀ n, ((typeM rs g).items.any fun i => i.n == n) = hasB rs g n) := fun n => by unfold hasB; rw [if_neg (by omega), if_pos hk]
  generalize typeM rs g = tg at *
  generalize hasB rs g = hb at *
  generalize samplesL ws f = L at *
  generalize strangeM ws rs f g = sM at *
  have HK1 := kind_any f.kind
  have HK2 := kind_any g.kind
  generalize kindN f.kind = k1 at *
  generalize kindN g.kind = k2 at *
  have HH := hide HH
  have HS := hide HS
  have HW := hide hW
  obtain ⟨a0, a1, _⟩ := rowN2 r0
  obtain ⟨b0, b1, b2, b3, b4, _⟩ := rowN5 r1
  obtain ⟨c0, c1, c2, c3, c4, _⟩ := rowN5 r2
  clear hW h1 h2 n1 n2 r0 r1 r2 hk
  go_enter Tryz.func81, Tryz.ntmps81
  go_wp2_with fail
  rw [← unhide HW]
  refine (HK1 W).mono ?_
  rintro e w' ⟨rfl, hw'⟩
  rw [hw']
  clear hw' w'
  by_cases g1 : k1 = 0
  · subst g1
    go_wp2_with fail
    refine (HK2 W).mono ?_
    rintro e w' ⟨rfl, hw'⟩
    rw [hw']
    clear hw' w'
    by_cases g2 : k2 = 0
    · subst g2
      have hs := unhide E1 (by first | rfl | trivial) (by first | rfl | trivial)
      subst hs
      clear E0 E1 HK1 HK2
      go_wp2_with fail
      refine (unhide HH W hxW).mono ?_
      rintro e w1 ⟨T, tv, rfl, hT, ht, x1⟩
      have a0 := x1.cell a0
      have a1 := x1.cell a1
      have b0 := x1.cell b0
      have b1 := x1.cell b1
      have b2 := x1.cell b2
      have b3 := x1.cell b3
      have b4 := x1.cell b4
      have f1 := hxW.trans x1
      have HC : Hid (∀ (n : Int) w', Ext w1 w' → Calls Tryz.prog 161 #[.int .i64 n, .pointer (some ⟨T, 0, none⟩)] w' fun e w'' => e = .returned (.bool (hb n)) ∧ Ext w' w'') := fun n w' hx => (hold2_any n T tv tg w' (hx.heap hT) (ht.ext hx) (by omega)).mono fun e w'' ⟨h, h'⟩ => ⟨by rw [h, unhide HB], h'⟩
      clear HB
      go_wp2_with fail
      refine (unhide HS w1 f1).mono ?_
      rintro e w2 ⟨sv, rfl, hs, x2⟩
      have hl := hs.1
      have hs := hide hs
      obtain ⟨sa, sl, sc⟩ := sv
      simp only at hl
      subst hl
      have f2 := f1.trans x2
      clear a0 a1 b0 b1 b2 b3 b4 c0 c1 c2 c3 c4 HH HS
      go_wp2
      go_loopw [30] (fun i wr => ∃ j : Nat, j ≤ L.length ∧ i = .int .i64 j ∧ L.find? (fun n => !hb n) = (L.drop j).find? (fun n => !hb n) ∧ Ext w2 wr) (fun i _ => L.length - (intOf i).toNat)
      case atStart => exact ⟨0, by omega, rfl, by rw [List.drop_zero], Ext.refl w2⟩
      case round =>
        obtain ⟨j, hj, rfl, hq, hE⟩ := hrel
        by_cases hlt : j < L.length
        · obtain ⟨ib, io, eia, hc⟩ := int_at (unhide hs) hlt
          have hc := hE.cell hc
          simp only at eia
          subst eia
          rw [find_drop hlt] at hq
          generalize L[j] = n at *
          have hC := unhide HC n wr (x2.trans hE)
          have Hq := hide hq
          clear hq
          go_wp2_with fail
          refine hC.mono ?_
          rintro e w3 ⟨rfl, x3⟩
          have hE3 := hE.trans x3
          cases hn : hb n with
          | true =>
            have hq := unhide Hq
            rw [hn] at hq
            go_wp2
            exact ⟨⟨j + 1, by omega, by go_num, hq, hE3⟩, by simp [intOf]; omega⟩
          | false =>
            have hq := unhide Hq
            rw [hn] at hq
            simp only [Bool.not_false, if_true] at hq
            go_wp2
            rw [hq]
            exact bodyPost_ret (v := .tuple #[.int .i64 n, .bool true]) (by simp [results, Tryz.results81, go_sem]) rfl ⟨rfl, f2.trans hE3⟩
        · have hje : j = L.length := by omega
          subst hje
          have hq : L.find? (fun n => !hb n) = none := by rw [hq, List.drop_length]; rfl
          go_wp2
          rw [hq]
          exact bodyPost_ret (v := .tuple #[.int .i64 0, .bool false]) (by simp [results, Tryz.results81, go_sem]) rfl ⟨rfl, f2.trans hE⟩
    · have hs := unhide E0 (.inr g2)
      subst hs
      clear E0 E1 HK1 HK2 HH HS HB
      go_wp2
      exact bodyPost_ret (v := .tuple #[.int .i64 0, .bool false]) (by simp [results, Tryz.results81, go_sem]) rfl ⟨rfl, hxW⟩
  · have hs := unhide E0 (.inl g1)
    subst hs
    clear E0 E1 HK1 HK2 HH HS HB
    go_wp2
    exact bodyPost_ret (v := .tuple #[.int .i64 0, .bool false]) (by simp [results, Tryz.results81, go_sem]) rfl ⟨rfl, hxW⟩
set_option maxHeartbeats 6400000 in
set_option maxRecDepth 10000 in
theorem strange3_any (s1 s2 : SV) (ws rs : BookM) (f g : FieldM) (w : World) (h1 : BookAt w s1 ws) (h2 : BookAt w s2 rs) (n1 : ws.Small) (n2 : rs.Small) (hi : (typeM ws f).items.length ≤ 1000) (hi2 : (typeM rs g).items.length ≤ 1000) (hk : g.kind ≠ 1) (hk4 : g.kind ≠ 4) :
    Calls Tryz.prog 81 #[.agg #[.slice s1.a s1.len s1.cap, .slice s2.a s2.len s2.cap], .agg #[.int .i64 f.id, .string f.name, .string f.type, .int .i64 f.kind, .int .i64 f.rule], .agg #[.int .i64 g.id, .string g.name, .string g.type, .int .i64 g.kind, .int .i64 g.rule]] w fun e w' => e = .returned (.tuple #[.int .i64 ((strangeM ws rs f g).getD 0), .bool (strangeM ws rs f g).isSome]) ∧ Ext w w' := by
  obtain ⟨W, hW⟩ : ∃ W, W = ((w.alloc (.cells #[.slice s1.a s1.len s1.cap, .slice s2.a s2.len s2.cap] 52)).alloc (.cells #[.int .i64 f.id, .string f.name, .string f.type, .int .i64 f.kind, .int .i64 f.rule] 70)).alloc (.cells #[.int .i64 g.id, .string g.name, .string g.type, .int .i64 g.kind, .int .i64 g.rule] 70) := ⟨_, rfl⟩
  obtain ⟨hxW, hzW, r0, r1, r2⟩ := heaps3c hW
  have HH := fun w' (hx : Ext w w') => holder3_any s2 g w' hk hk4
  have HS := fun w' (hx : Ext w w') => samples_any s1 ws f w' (h1.ext hx) n1 hi
  have hsl := samples_len hi
  have E0 : Hid (kindN f.kind ≠ 0 ∨ kindN g.kind ≠ 0 → strangeM ws rs f g = none) := fun h => by unfold strangeM; rw [if_pos h]
  have E1 : Hid (kindN f.kind = 0 → kindN g.kind = 0 → strangeM ws rs f g = (samplesL ws f).find? fun n => !hasB rs g n) := fun a b => by unfold strangeM; rw [if_neg (by simp [a, b])]
  have HB : Hid (∀ n, true = hasB rs g n) := fun n => by unfold hasB; rw [if_neg hk, if_neg hk4]
  generalize hasB rs g = hb at *
  generalize samplesL ws f = L at *
  generalize strangeM ws rs f g = sM at *
  have HK1 := kind_any f.kind
  have HK2 := kind_any g.kind
  generalize kindN f.kind = k1 at *
  generalize kindN g.kind = k2 at *
  have HH := hide HH
  have HS := hide HS
  have HW := hide hW
  obtain ⟨a0, a1, _⟩ := rowN2 r0
  obtain ⟨b0, b1, b2, b3, b4, _⟩ := rowN5 r1
  obtain ⟨c0, c1, c2, c3, c4, _⟩ := rowN5 r2
  clear hW h1 h2 n1 n2 r0 r1 r2 hk hk4
  go_enter Tryz.func81, Tryz.ntmps81
  go_wp2_with fail
  rw [← unhide HW]
  refine (HK1 W).mono ?_
  rintro e w' ⟨rfl, hw'⟩
  rw [hw']
  clear hw' w'
  by_cases g1 : k1 = 0
  · subst g1
    go_wp2_with fail
    refine (HK2 W).mono ?_
    rintro e w' ⟨rfl, hw'⟩
    rw [hw']
    clear hw' w'
    by_cases g2 : k2 = 0
    · subst g2
      have hs := unhide E1 (by first | rfl | trivial) (by first | rfl | trivial)
      subst hs
      clear E0 E1 HK1 HK2
      go_wp2_with fail
      refine (unhide HH W hxW).mono ?_
      rintro e w1 ⟨rfl, x1⟩
      have a0 := x1.cell a0
      have a1 := x1.cell a1
      have b0 := x1.cell b0
      have b1 := x1.cell b1
      have b2 := x1.cell b2
      have b3 := x1.cell b3
      have b4 := x1.cell b4
      have f1 := hxW.trans x1
      have HC : Hid (∀ (n : Int) w', Ext w1 w' → Calls Tryz.prog 162 #[.int .i64 n] w' fun e w'' => e = .returned (.bool (hb n)) ∧ Ext w' w'') := fun n w' hx => (hold3_any n w').mono fun e w'' ⟨h, h'⟩ => ⟨by rw [h, unhide HB], by rw [h']; exact Ext.refl _⟩
      clear HB
      go_wp2_with fail
      refine (unhide HS w1 f1).mono ?_
      rintro e w2 ⟨sv, rfl, hs, x2⟩
      have hl := hs.1
      have hs := hide hs
      obtain ⟨sa, sl, sc⟩ := sv
      simp only at hl
      subst hl
      have f2 := f1.trans x2
      clear a0 a1 b0 b1 b2 b3 b4 c0 c1 c2 c3 c4 HH HS
      go_wp2
      go_loopw [30] (fun i wr => ∃ j : Nat, j ≤ L.length ∧ i = .int .i64 j ∧ L.find? (fun n => !hb n) = (L.drop j).find? (fun n => !hb n) ∧ Ext w2 wr) (fun i _ => L.length - (intOf i).toNat)
      case atStart => exact ⟨0, by omega, rfl, by rw [List.drop_zero], Ext.refl w2⟩
      case round =>
        obtain ⟨j, hj, rfl, hq, hE⟩ := hrel
        by_cases hlt : j < L.length
        · obtain ⟨ib, io, eia, hc⟩ := int_at (unhide hs) hlt
          have hc := hE.cell hc
          simp only at eia
          subst eia
          rw [find_drop hlt] at hq
          generalize L[j] = n at *
          have hC := unhide HC n wr (x2.trans hE)
          have Hq := hide hq
          clear hq
          go_wp2_with fail
          refine hC.mono ?_
          rintro e w3 ⟨rfl, x3⟩
          have hE3 := hE.trans x3
          cases hn : hb n with
          | true =>
            have hq := unhide Hq
            rw [hn] at hq
            go_wp2
            exact ⟨⟨j + 1, by omega, by go_num, hq, hE3⟩, by simp [intOf]; omega⟩
          | false =>
            have hq := unhide Hq
            rw [hn] at hq
            simp only [Bool.not_false, if_true] at hq
            go_wp2
            rw [hq]
            exact bodyPost_ret (v := .tuple #[.int .i64 n, .bool true]) (by simp [results, Tryz.results81, go_sem]) rfl ⟨rfl, f2.trans hE3⟩
        · have hje : j = L.length := by omega
          subst hje
          have hq : L.find? (fun n => !hb n) = none := by rw [hq, List.drop_length]; rfl
          go_wp2
          rw [hq]
          exact bodyPost_ret (v := .tuple #[.int .i64 0, .bool false]) (by simp [results, Tryz.results81, go_sem]) rfl ⟨rfl, f2.trans hE⟩
    · have hs := unhide E0 (.inr g2)
      subst hs
      clear E0 E1 HK1 HK2 HH HS HB
      go_wp2
      exact bodyPost_ret (v := .tuple #[.int .i64 0, .bool false]) (by simp [results, Tryz.results81, go_sem]) rfl ⟨rfl, hxW⟩
  · have hs := unhide E0 (.inl g1)
    subst hs
    clear E0 E1 HK1 HK2 HH HS HB
    go_wp2
    exact bodyPost_ret (v := .tuple #[.int .i64 0, .bool false]) (by simp [results, Tryz.results81, go_sem]) rfl ⟨rfl, hxW⟩
theorem strange_any (s1 s2 : SV) (ws rs : BookM) (f g : FieldM) (w : World) (h1 : BookAt w s1 ws) (h2 : BookAt w s2 rs) (n1 : ws.Small) (n2 : rs.Small) (hi : (typeM ws f).items.length ≤ 1000) (hi2 : (typeM rs g).items.length ≤ 1000) :
    Calls Tryz.prog 81 #[.agg #[.slice s1.a s1.len s1.cap, .slice s2.a s2.len s2.cap], .agg #[.int .i64 f.id, .string f.name, .string f.type, .int .i64 f.kind, .int .i64 f.rule], .agg #[.int .i64 g.id, .string g.name, .string g.type, .int .i64 g.kind, .int .i64 g.rule]] w fun e w' => e = .returned (.tuple #[.int .i64 ((strangeM ws rs f g).getD 0), .bool (strangeM ws rs f g).isSome]) ∧ Ext w w' := by
  by_cases k1 : g.kind = 1
  · exact strange1_any s1 s2 ws rs f g w h1 h2 n1 n2 hi hi2 k1
  · by_cases k4 : g.kind = 4
    · exact strange2_any s1 s2 ws rs f g w h1 h2 n1 n2 hi hi2 k4
    · exact strange3_any s1 s2 ws rs f g w h1 h2 n1 n2 hi hi2 k1 k4
end Go.Proofs.YtnppgeiompimaaaGreatDoor


