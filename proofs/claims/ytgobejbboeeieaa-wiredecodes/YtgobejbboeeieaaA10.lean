import Derived.Test.YtgobejbboeeieaaA9
namespace Go.Proofs.Ytgobejbboeeieaa
set_option linter.unusedSimpArgs false
set_option linter.unusedVariables false
open Go.RowKit

theorem size_extract_end (s : ByteArray) (i : Nat) : (s.extract i s.size).size = s.size - i := by
  rw [← bytes_len, extract_end, List.length_drop, bytes_len]
theorem cutN_size {s r : ByteArray} {u : Nat} (h : cutN 6 true s.data.toList = some (u, r.data.toList)) : r.size < s.size ∧ u < 4398046511104 := by
  have h1 := cutN_lt h
  rw [bytes_len, bytes_len] at h1
  exact ⟨h1, (sev_cut _ _ _ _ _ h).2.1⟩
theorem cutP_no1 {l : List UInt8} (h : cutN 6 true l = none) : cutP l = none := by unfold cutP; rw [h]
theorem cutP_no2 {l r : List UInt8} {hd : Nat} (h : cutN 6 true l = some (hd, r)) (h2 : cutN 6 true r = none) : cutP l = none := by unfold cutP; rw [h]; simp only; rw [h2]
theorem cutP_num {l r r' : List UInt8} {hd u : Nat} (h : cutN 6 true l = some (hd, r)) (h2 : cutN 6 true r = some (u, r')) (hk : hd % 4 = 0) : cutP l = some (⟨(hd / 4 : Nat), 0, unfoldN u, ⟨#[]⟩⟩, r') := by
  unfold cutP; rw [h]; simp only; rw [h2]; simp only; rw [if_pos hk]
theorem cutP_long {l r r' : List UInt8} {hd u : Nat} (h : cutN 6 true l = some (hd, r)) (h2 : cutN 6 true r = some (u, r')) (hk : ¬ hd % 4 = 0) (hu : r'.length < u) : cutP l = none := by
  unfold cutP; rw [h]; simp only; rw [h2]; simp only; rw [if_neg hk, if_pos hu]
theorem cutP_text {l r r' : List UInt8} {hd u : Nat} (h : cutN 6 true l = some (hd, r)) (h2 : cutN 6 true r = some (u, r')) (hk : ¬ hd % 4 = 0) (hu : ¬ r'.length < u) : cutP l = some (⟨(hd / 4 : Nat), (hd % 4 : Nat), 0, ⟨(r'.take u).toArray⟩⟩, r'.drop u) := by
  unfold cutP; rw [h]; simp only; rw [h2]; simp only; rw [if_neg hk, if_neg hu]
theorem extract_take (s : ByteArray) (u : Nat) : s.extract 0 u = ⟨(s.data.toList.take u).toArray⟩ := by
  apply bytes_ext
  rw [extract_data]; simp

set_option maxHeartbeats 3200000 in
set_option maxRecDepth 10000 in
theorem cutPart_any (s : ByteArray) (w : World) (hs : s.size ≤ 20000) :
    Calls Try.prog 18 #[.string s] w fun e w' => ∃ (p : PartM) (r : ByteArray) (ok : Bool), e = .returned (.tuple #[.agg #[.int .i64 p.id, .int .i64 p.kind, .int .i64 p.n, .string p.s], .string r, .bool ok]) ∧ (ok = true → cutP s.data.toList = some (p, r.data.toList)) ∧ (ok = false → cutP s.data.toList = none) ∧ p.s.size ≤ 20000 ∧ Ext w w' := by
  have hx0 : Ext w (w.alloc (.cells #[.int .i64 0, .int .i64 0, .int .i64 0, .string ⟨#[]⟩] 27)) := (Ext.refl w).alloc _
  have hA0 := heap_alloc_new w (.cells #[.int .i64 0, .int .i64 0, .int .i64 0, .string ⟨#[]⟩] 27)
  go_enter Try.func18, Try.ntmps18
  go_wp2_with fail
  refine (cutNumber_any s _ hs).mono ?_
  rintro e w1 ⟨hd, r1, ok1, rfl, ht1, hf1, hx1⟩
  have hA1 := hx1.heap hA0
  cases ok1
  · have h1 := hide (hf1 rfl)
    clear ht1 hf1
    obtain ⟨c0, c1, c2, c3, cf⟩ := row4 hA1
    have hz1 : w.heap.size < w1.heap.size := lt_of_heap hA1
    go_wp2
    refine bodyPost_ret (v := .tuple #[.agg #[.int .i64 0, .int .i64 0, .int .i64 0, .string ⟨#[]⟩], .string ⟨#[]⟩, .bool false]) (by simp [results, Try.results18, go_sem, c0, c1, c2, c3]) rfl ⟨⟨0, 0, 0, ⟨#[]⟩⟩, _, _, rfl, (fun h => absurd h (by decide)), fun _ => cutP_no1 (unhide h1), Nat.zero_le _, ?_⟩
    exact ((((hx0.trans hx1).setCell (by simp) _).setCell (by simp) _).setCell (by simp) _).setCell (by simp) _
  · have e1 := ht1 rfl
    obtain ⟨hr1, hhd⟩ := cutN_size e1
    have h1 := hide e1
    clear ht1 hf1 e1
    go_wp2_with fail
    refine (cutNumber_any r1 _ (by omega)).mono ?_
    rintro e w2 ⟨u, r2, ok2, rfl, ht2, hf2, hx2⟩
    have hA2 := hx2.heap hA1
    have hx02 := (hx0.trans hx1).trans hx2
    cases ok2
    · have h2 := hide (hf2 rfl)
      clear ht2 hf2
      obtain ⟨c0, c1, c2, c3, cf⟩ := row4 hA2
      have hz1 : w.heap.size < w2.heap.size := lt_of_heap hA2
      go_wp2
      refine bodyPost_ret (v := .tuple #[.agg #[.int .i64 0, .int .i64 0, .int .i64 0, .string ⟨#[]⟩], .string ⟨#[]⟩, .bool false]) (by simp [results, Try.results18, go_sem, c0, c1, c2, c3]) rfl ⟨⟨0, 0, 0, ⟨#[]⟩⟩, _, _, rfl, (fun h => absurd h (by decide)), fun _ => cutP_no2 (unhide h1) (unhide h2), Nat.zero_le _, ?_⟩
      exact (((hx02.setCell (by simp) _).setCell (by simp) _).setCell (by simp) _).setCell (by simp) _
    · have e2 := ht2 rfl
      obtain ⟨hr2, hu⟩ := cutN_size e2
      have h2 := hide e2
      clear ht2 hf2 e2
      go_wp2_with fail
      refine (partOf_any hd w2 hhd).mono ?_
      rintro e w3 ⟨rfl, hx3⟩
      have hx03 := hx02.trans hx3
      have hA3 := hx3.heap hA2
      obtain ⟨i, hi⟩ : ∃ i : Nat, hd / 4 = i := ⟨_, rfl⟩
      obtain ⟨kd, hkd⟩ : ∃ k : Nat, hd % 4 = k := ⟨_, rfl⟩
      have Hkd := hide hkd
      have Hi := hide hi
      rw [hi, hkd]
      clear hi hkd
      obtain ⟨c0, c1, c2, c3, cf⟩ := row4 hA3
      have hz3 : w.heap.size < w3.heap.size := lt_of_heap hA3
      by_cases hk : kd = 0
      · subst hk
        have hxB : Ext w3 (w3.alloc (.cells #[.int .i64 i, .int .i64 0, .int .i64 0, .string ⟨#[]⟩] 27)) := (Ext.refl w3).alloc _
        have hB := heap_alloc_new w3 (.cells #[.int .i64 i, .int .i64 0, .int .i64 0, .string ⟨#[]⟩] 27)
        have hE := hide (cutP_num (unhide h1) (unhide h2) (unhide Hkd))
        rw [unhide Hi] at hE
        go_wp2_with fail
        refine (unfold_any u _ hu).mono ?_
        rintro e w4 ⟨rfl, rfl⟩
        go_wp2
        refine bodyPost_ret (v := .tuple #[.agg #[.int .i64 i, .int .i64 0, .int .i64 (unfoldN u), .string ⟨#[]⟩], .string r2, .bool true]) (by simp [results, Try.results18, go_sem, c0, c1, c2, c3, hz3]) rfl ⟨⟨i, 0, unfoldN u, ⟨#[]⟩⟩, _, _, rfl, (fun _ => unhide hE), (fun h => absurd h (by decide)), Nat.zero_le _, ?_⟩
        exact ((((hx03.setCell (by simp) _).setCell (by simp) _).setCell (by simp) _).setCell (by simp) _).alloc _
      · have hE1 := fun hl => hide (cutP_long (unhide h1) (unhide h2) (by rw [unhide Hkd]; exact hk) hl)
        have hE2 := fun hl => hide (cutP_text (unhide h1) (unhide h2) (by rw [unhide Hkd]; exact hk) hl)
        rw [bytes_len] at hE1 hE2
        rw [unhide Hi, unhide Hkd, ← extract_take, ← extract_end] at hE2
        by_cases hlu : r2.size < u
        · have hE := hE1 hlu
          clear hE1 hE2
          go_wp2
          refine bodyPost_ret (v := .tuple #[.agg #[.int .i64 0, .int .i64 0, .int .i64 0, .string ⟨#[]⟩], .string ⟨#[]⟩, .bool false]) (by simp [results, Try.results18, go_sem, c0, c1, c2, c3, hz3]) rfl ⟨⟨0, 0, 0, ⟨#[]⟩⟩, _, _, rfl, (fun h => absurd h (by decide)), (fun _ => unhide hE), Nat.zero_le _, ?_⟩
          exact ((((hx03.setCell (by simp) _).setCell (by simp) _).setCell (by simp) _).setCell (by simp) _).alloc _
        · have hE := hE2 hlu
          clear hE1 hE2
          go_wp2
          go_region
          go_wp2
          refine bodyPost_ret (v := .tuple #[.agg #[.int .i64 i, .int .i64 kd, .int .i64 0, .string (r2.extract 0 u)], .string (r2.extract u r2.size), .bool true]) (by simp [results, Try.results18, go_sem, c0, c1, c2, c3, hz3]) rfl ⟨⟨i, kd, 0, r2.extract 0 u⟩, _, _, rfl, (fun _ => unhide hE), (fun h => absurd h (by decide)), ?_, ?_⟩
          · show (r2.extract 0 u).size ≤ 20000
            rw [← bytes_len, extract_data, List.length_take]
            omega
          · exact (((((hx03.setCell (by simp) _).setCell (by simp) _).setCell (by simp) _).setCell (by simp) _).alloc _).drew
end Go.Proofs.Ytgobejbboeeieaa
