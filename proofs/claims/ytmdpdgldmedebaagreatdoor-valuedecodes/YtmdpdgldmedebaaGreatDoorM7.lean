import Derived.Test.YtmdpdgldmedebaaGreatDoorM6
import Derived.Deep.QuietTactic
import Derived.BigQuiet
namespace Go.Proofs.YtmdpdgldmedebaaGreatDoor
set_option linter.unusedSimpArgs false
set_option linter.unusedVariables false
set_option linter.unusedSimpArgs false
set_option linter.unusedVariables false
open Go.RowKit

theorem and_127 (c : UInt8) : bits .and .u8 (c.toNat : Int) 127 = ((c.toNat % 128 : Nat) : Int) := by
  have := bits_mask .u8 8 (by decide) wraps_u8 7 (by decide) (c.toNat : Int) (by omega) (by have := c.toNat_lt; omega)
  rw [show (2 : Int) ^ 7 - 1 = 127 by decide, show (2 : Int) ^ 7 = 128 by decide] at this
  rw [this]; omega
theorem or_shift (u k : Nat) (c : UInt8) (h6 : k < 6) (hu : u < 128 ^ k) : bits .or .u64 (u : Int) (IntKind.u64.wrap ((c.toNat : Int) % 128 * 2 ^ (7 * k))) = ((u + 128 ^ k * (c.toNat % 128) : Nat) : Int) := by
  have e : (128 : Nat) ^ k = 2 ^ (7 * k) := by rw [Nat.pow_mul]
  have hb : (128 : Nat) ^ k ≤ 128 ^ 5 := Nat.pow_le_pow_right (by omega) (by omega)
  rw [e] at hu hb ⊢
  have h5 : (128 : Nat) ^ 5 = 34359738368 := by decide
  rw [h5] at hb
  have hc : c.toNat % 128 ≤ 127 := by omega
  have hm : 2 ^ (7 * k) * (c.toNat % 128) ≤ 34359738368 * 127 := Nat.mul_le_mul hb hc
  have hw : IntKind.u64.wrap ((c.toNat : Int) % 128 * 2 ^ (7 * k)) = ((2 ^ (7 * k) * (c.toNat % 128) : Nat) : Int) := by
    have e2 : (c.toNat : Int) % 128 * 2 ^ (7 * k) = ((2 ^ (7 * k) * (c.toNat % 128) : Nat) : Int) := by
      rw [Int.mul_comm]; simp
    rw [e2, IntKind.wrap_u64]
    omega
  rw [hw, bits_or_u64_nat u _ (by omega) (by omega), Nat.or_comm, ← Nat.two_pow_add_eq_or_of_lt hu, Nat.add_comm]
theorem or_none (c : UInt8) : bits .or .u64 0 ((c.toNat : Int) % 128) = ((c.toNat % 128 : Nat) : Int) := by
  have := bits_or_u64_nat 0 (c.toNat % 128) (by omega) (by omega)
  rw [Nat.zero_or] at this
  exact this

theorem extract_data (s : ByteArray) (i j : Nat) : (s.extract i j).data.toList = (s.data.toList.drop i).take (j - i) := by
  rw [ByteArray.data_extract, Array.toList_extract]
theorem extract_end (s : ByteArray) (i : Nat) : (s.extract i s.size).data.toList = s.data.toList.drop i := by
  rw [extract_data, List.take_of_length_le]
  rw [List.length_drop, bytes_len]; omega
theorem drop_byte (s : ByteArray) (k : Nat) (h : k < s.size) : s.data.toList.drop k = s[k] :: s.data.toList.drop (k + 1) := by
  rw [drop_cons (by rw [bytes_len]; exact h)]; rfl
theorem cutN_last {n : Nat} {f : Bool} {c : UInt8} {r : List UInt8} (hc : c.toNat < 128) (hf : (f || c.toNat != 0) = true) : cutN (n + 1) f (c :: r) = some (c.toNat, r) := by
  rw [cutN, if_pos hc, hf, if_pos rfl]
theorem cutN_zero {n : Nat} {f : Bool} {c : UInt8} {r : List UInt8} (hc : c.toNat < 128) (hf : (f || c.toNat != 0) = false) : cutN (n + 1) f (c :: r) = none := by
  rw [cutN, if_pos hc, hf]; rfl
theorem cutN_more {n : Nat} {f : Bool} {c : UInt8} {r : List UInt8} (hc : ¬ c.toNat < 128) : cutN (n + 1) f (c :: r) = (cutN n false r).map fun p => (c.toNat - 128 + 128 * p.1, p.2) := by
  rw [cutN, if_neg hc]
theorem cutN_end (n : Nat) (f : Bool) : cutN n f [] = none := by cases n <;> rfl

/-- How far the number in front is read. -/
def CutTo (l : List UInt8) (k u : Nat) : Prop := u < 128 ^ k ∧ cutN 6 true l = (cutN (6 - k) (k == 0) (l.drop k)).map (fun p => (u + 128 ^ k * p.1, p.2))
theorem CutTo.start (l : List UInt8) : CutTo l 0 0 := ⟨by decide, by simp⟩
theorem CutTo.next {s : ByteArray} {k u : Nat} (h : CutTo s.data.toList k u) (h6 : k < 6) (hk : k < s.size) (hc : ¬ s[k].toNat < 128) : CutTo s.data.toList (k + 1) (u + 128 ^ k * (s[k].toNat % 128)) := by
  have hlt := s[k].toNat_lt
  have hp := Nat.pow_pos (a := 128) (n := k) (by omega)
  refine ⟨?_, ?_⟩
  · have h1 := h.1
    have h2 : 128 ^ k * (s[k].toNat % 128) ≤ 128 ^ k * 127 := Nat.mul_le_mul_left _ (by omega)
    rw [Nat.pow_succ]; omega
  · rw [h.2, drop_byte s k hk, show 6 - k = (6 - (k + 1)) + 1 by omega, cutN_more hc, Option.map_map, show ((k + 1 : Nat) == 0) = false by simp]
    congr 1
    funext p
    simp only [Function.comp_apply, Prod.mk.injEq, and_true]
    rw [show s[k].toNat % 128 = s[k].toNat - 128 by omega, Nat.pow_succ, Nat.mul_add, Nat.mul_assoc]
    omega
theorem CutTo.last {s : ByteArray} {k u : Nat} (h : CutTo s.data.toList k u) (h6 : k < 6) (hk : k < s.size) (hc : s[k].toNat < 128) (hf : (k == 0 || s[k].toNat != 0) = true) : cutN 6 true s.data.toList = some (u + 128 ^ k * (s[k].toNat % 128), (s.extract (k + 1) s.size).data.toList) := by
  rw [h.2, drop_byte s k hk, show 6 - k = (6 - (k + 1)) + 1 by omega, cutN_last hc hf, extract_end, show s[k].toNat % 128 = s[k].toNat by omega]
  rfl
theorem CutTo.zero {s : ByteArray} {k u : Nat} (h : CutTo s.data.toList k u) (h6 : k < 6) (hk : k < s.size) (hc : s[k].toNat < 128) (hf : (k == 0 || s[k].toNat != 0) = false) : cutN 6 true s.data.toList = none := by
  rw [h.2, drop_byte s k hk, show 6 - k = (6 - (k + 1)) + 1 by omega, cutN_zero hc hf]
  rfl
theorem CutTo.none {s : ByteArray} {k u : Nat} (h : CutTo s.data.toList k u) (hk : 6 ≤ k ∨ s.size ≤ k) : cutN 6 true s.data.toList = none := by
  rw [h.2]
  rcases hk with hk | hk
  · rw [show 6 - k = 0 by omega]; rfl
  · rw [List.drop_of_length_le (by rw [bytes_len]; exact hk), cutN_end]; rfl

end Go.Proofs.YtmdpdgldmedebaaGreatDoor

namespace Go.Proofs.YtmdpdgldmedebaaGreatDoor
set_option linter.unusedSimpArgs false
set_option linter.unusedVariables false
open Go.RowKit

theorem ret_cut {a b : Int} {r : ByteArray} {ok : Bool} (h : a = b) : Ending.returned (.tuple #[.int .u64 a, .string r, .bool ok]) = .returned (.tuple #[.int .u64 b, .string r, .bool ok]) := by rw [h]

set_option maxHeartbeats 3200000 in
set_option maxRecDepth 10000 in
theorem cutNumber_any (s : ByteArray) (w : World) (hs : s.size ≤ 20000) :
    Calls Tryz.prog 102 #[.string s] w fun e w' => ∃ (u : Nat) (r : ByteArray) (ok : Bool), e = .returned (.tuple #[.int .u64 u, .string r, .bool ok]) ∧ (ok = true → cutN 6 true s.data.toList = some (u, r.data.toList)) ∧ (ok = false → cutN 6 true s.data.toList = none) ∧ Ext w w' := by
  have hmin : ∃ m : Nat, (s.size ≤ 6 ∧ m = s.size ∨ 6 < s.size ∧ m = 6) := by
    by_cases h : s.size ≤ 6
    · exact ⟨s.size, .inl ⟨h, rfl⟩⟩
    · exact ⟨6, .inr ⟨by omega, rfl⟩⟩
  obtain ⟨m, hm⟩ := hmin
  have hm6 : m ≤ 6 := by omega
  have hms : m ≤ s.size := by omega
  have hmo : 6 ≤ m ∨ s.size ≤ m := by omega
  go_enter Tryz.func102, Tryz.ntmps102
  go_wp2
  rw [show min (s.size : Int) 6 = (m : Int) by omega]
  all_goals clear hm
  all_goals
    go_loopw [5, 10] (fun x i wr => ∃ (k u : Nat), k ≤ m ∧ i = .int .i64 k ∧ x = .int .u64 u ∧ CutTo s.data.toList k u ∧ Ext w wr) (fun _ i _ => m - (intOf i).toNat)
    case atStart => exact ⟨0, 0, by omega, rfl, rfl, CutTo.start _, Ext.refl _⟩
    case round =>
      obtain ⟨k, u, hkm, rfl, rfl, hT, hx⟩ := hrel
      by_cases hlt : k < m
      · have h6 : k < 6 := by omega
        have hsz : k < s.size := by omega
        have hmask := and_127 s[k]
        have hc := s[k].toNat_lt
        have hor := or_shift u k s[k] h6 hT.1
        by_cases hc1 : s[k].toNat < 128
        · by_cases hk0 : k = 0
          · have Hlast := hide (hT.last h6 hsz hc1 (by simp [hk0]))
            subst hk0
            have hu0 : u = 0 := by have := hT.1; simp at this; exact this
            subst hu0
            have ho0 := or_none s[0]
            clear hor
            go_wp2
            go_quiet (fail)
            go_wp2
            go_ret3
            exact ⟨_, _, true, ret_cut (by simp), fun _ => unhide Hlast, (fun h => absurd h (by decide)), hx.drewN _⟩
          · have hkz : ((k : Int) == 0) = false := by simp; omega
            by_cases hz : s[k].toNat = 0
            · have Hz := hide (hT.zero h6 hsz hc1 (by simp [hk0, hz]))
              have hzz : ((s[k].toNat : Int) != 0) = false := by simp [hz]
              have Hzz := hide hz
              clear hz hk0
              go_wp2
              go_quiet (fail)
              go_wp2
              go_ret3
              exact ⟨u + 128 ^ k * (s[k].toNat % 128), _, false, ret_cut (by simp), (fun h => absurd h (by decide)), fun _ => unhide Hz, hx.drewN _⟩
            · have Hlast := hide (hT.last h6 hsz hc1 (by simp [hz]))
              have hzz : ((s[k].toNat : Int) != 0) = true := by simp; omega
              clear hk0
              go_wp2
              go_quiet (fail)
              go_wp2
              go_ret3
              exact ⟨_, _, true, ret_cut (by simp), fun _ => unhide Hlast, (fun h => absurd h (by decide)), hx.drewN _⟩
        · have HN := hide (hT.next h6 hsz hc1)
          go_wp2
          exact ⟨⟨k + 1, _, by omega, by go_num, by simp, unhide HN, hx⟩, by simp [intOf]; omega⟩
      · have HN := hide (hT.none (by omega))
        go_wp2
        go_ret3
        exact ⟨0, _, false, rfl, (fun h => absurd h (by decide)), fun _ => unhide HN, hx⟩
end Go.Proofs.YtmdpdgldmedebaaGreatDoor

namespace Go.Proofs.YtmdpdgldmedebaaGreatDoor
set_option linter.unusedSimpArgs false
set_option linter.unusedVariables false
open Go.RowKit

theorem size_extract_end (s : ByteArray) (i : Nat) : (s.extract i s.size).size = s.size - i := by
  rw [← bytes_len, extract_end, List.length_drop, bytes_len]
theorem cutN_size {s r : ByteArray} {u : Nat} (h : cutN 6 true s.data.toList = some (u, r.data.toList)) : r.size < s.size ∧ u < 4398046511104 := by
  have h1 := cutN_lt h
  rw [bytes_len, bytes_len] at h1
  exact ⟨h1, (sev_cut _ _ _ _ _ h).2.1⟩
theorem cutP_no1 {l : List UInt8} (h : cutN 6 true l = none) : cutP l = none := by unfold cutP; rw [h]
theorem cutP_no2 {l r : List UInt8} {hd : Nat} (h : cutN 6 true l = some (hd, r)) (h2 : cutN 6 true r = none) : cutP l = none := by unfold cutP; rw [h]; simp only; rw [h2]
theorem cutP_num {l r r' : List UInt8} {hd u : Nat} (h : cutN 6 true l = some (hd, r)) (h2 : cutN 6 true r = some (u, r')) (hk : hd % 4 = 0) : cutP l = some (⟨(hd / 4 : Nat), 0, unfoldN u, ⟨#[]⟩⟩, r') := by
  unfold cutP; rw [h]; simp only; rw [h2]; simp only; rw [if_pos hk]
theorem cutP_long {l r r' : List UInt8} {hd u : Nat} (h : cutN 6 true l = some (hd, r)) (h2 : cutN 6 true r = some (u, r')) (hk : ¬ hd % 4 = 0) (hu : r'.length < u) : cutP l = none := by
  unfold cutP; rw [h]; simp only; rw [h2]; simp only; rw [if_neg hk, if_pos hu]
theorem cutP_text {l r r' : List UInt8} {hd u : Nat} (h : cutN 6 true l = some (hd, r)) (h2 : cutN 6 true r = some (u, r')) (hk : ¬ hd % 4 = 0) (hu : ¬ r'.length < u) : cutP l = some (⟨(hd / 4 : Nat), (hd % 4 : Nat), 0, ⟨(r'.take u).toArray⟩⟩, r'.drop u) := by
  unfold cutP; rw [h]; simp only; rw [h2]; simp only; rw [if_neg hk, if_neg hu]
theorem extract_take (s : ByteArray) (u : Nat) : s.extract 0 u = ⟨(s.data.toList.take u).toArray⟩ := by
  apply bytes_ext
  rw [extract_data]; simp

set_option maxHeartbeats 3200000 in
set_option maxRecDepth 10000 in
theorem cutPart_any (s : ByteArray) (w : World) (hs : s.size ≤ 20000) :
    Calls Tryz.prog 81 #[.string s] w fun e w' => ∃ (p : PartM) (r : ByteArray) (ok : Bool), e = .returned (.tuple #[.agg #[.int .i64 p.id, .int .i64 p.kind, .int .i64 p.n, .string p.s], .string r, .bool ok]) ∧ (ok = true → cutP s.data.toList = some (p, r.data.toList)) ∧ (ok = false → cutP s.data.toList = none) ∧ p.s.size ≤ 20000 ∧ Ext w w' := by
  have hx0 : Ext w (w.alloc (.cells #[.int .i64 0, .int .i64 0, .int .i64 0, .string ⟨#[]⟩] 85)) := (Ext.refl w).alloc _
  have hA0 := heap_alloc_new w (.cells #[.int .i64 0, .int .i64 0, .int .i64 0, .string ⟨#[]⟩] 85)
  go_enter Tryz.func81, Tryz.ntmps81
  go_wp2_with fail
  refine (cutNumber_any s _ hs).mono ?_
  rintro e w1 ⟨hd, r1, ok1, rfl, ht1, hf1, hx1⟩
  have hA1 := hx1.heap hA0
  cases ok1
  · have h1 := hide (hf1 rfl)
    clear ht1 hf1
    obtain ⟨c0, c1, c2, c3, cf⟩ := row4 hA1
    have hz1 : w.heap.size < w1.heap.size := lt_of_heap hA1
    go_wp2
    refine bodyPost_ret (v := .tuple #[.agg #[.int .i64 0, .int .i64 0, .int .i64 0, .string ⟨#[]⟩], .string ⟨#[]⟩, .bool false]) (by simp [results, Tryz.results81, go_sem, c0, c1, c2, c3]) rfl ⟨⟨0, 0, 0, ⟨#[]⟩⟩, _, _, rfl, (fun h => absurd h (by decide)), fun _ => cutP_no1 (unhide h1), Nat.zero_le _, ?_⟩
    exact ((((hx0.trans hx1).setCell (by simp) _).setCell (by simp) _).setCell (by simp) _).setCell (by simp) _
  · have e1 := ht1 rfl
    obtain ⟨hr1, hhd⟩ := cutN_size e1
    have h1 := hide e1
    clear ht1 hf1 e1
    go_wp2_with fail
    refine (cutNumber_any r1 _ (by omega)).mono ?_
    rintro e w2 ⟨u, r2, ok2, rfl, ht2, hf2, hx2⟩
    have hA2 := hx2.heap hA1
    have hx02 := (hx0.trans hx1).trans hx2
    cases ok2
    · have h2 := hide (hf2 rfl)
      clear ht2 hf2
      obtain ⟨c0, c1, c2, c3, cf⟩ := row4 hA2
      have hz1 : w.heap.size < w2.heap.size := lt_of_heap hA2
      go_wp2
      refine bodyPost_ret (v := .tuple #[.agg #[.int .i64 0, .int .i64 0, .int .i64 0, .string ⟨#[]⟩], .string ⟨#[]⟩, .bool false]) (by simp [results, Tryz.results81, go_sem, c0, c1, c2, c3]) rfl ⟨⟨0, 0, 0, ⟨#[]⟩⟩, _, _, rfl, (fun h => absurd h (by decide)), fun _ => cutP_no2 (unhide h1) (unhide h2), Nat.zero_le _, ?_⟩
      exact (((hx02.setCell (by simp) _).setCell (by simp) _).setCell (by simp) _).setCell (by simp) _
    · have e2 := ht2 rfl
      obtain ⟨hr2, hu⟩ := cutN_size e2
      have h2 := hide e2
      clear ht2 hf2 e2
      go_wp2_with fail
      refine (partOf_any hd w2 hhd).mono ?_
      rintro e w3 ⟨rfl, hx3⟩
      have hx03 := hx02.trans hx3
      have hA3 := hx3.heap hA2
      obtain ⟨i, hi⟩ : ∃ i : Nat, hd / 4 = i := ⟨_, rfl⟩
      obtain ⟨kd, hkd⟩ : ∃ k : Nat, hd % 4 = k := ⟨_, rfl⟩
      have Hkd := hide hkd
      have Hi := hide hi
      rw [hi, hkd]
      clear hi hkd
      obtain ⟨c0, c1, c2, c3, cf⟩ := row4 hA3
      have hz3 : w.heap.size < w3.heap.size := lt_of_heap hA3
      by_cases hk : kd = 0
      · subst hk
        have hxB : Ext w3 (w3.alloc (.cells #[.int .i64 i, .int .i64 0, .int .i64 0, .string ⟨#[]⟩] 85)) := (Ext.refl w3).alloc _
        have hB := heap_alloc_new w3 (.cells #[.int .i64 i, .int .i64 0, .int .i64 0, .string ⟨#[]⟩] 85)
        have hE := hide (cutP_num (unhide h1) (unhide h2) (unhide Hkd))
        rw [unhide Hi] at hE
        go_wp2_with fail
        refine (unfold_any u _ hu).mono ?_
        rintro e w4 ⟨rfl, rfl⟩
        go_wp2
        refine bodyPost_ret (v := .tuple #[.agg #[.int .i64 i, .int .i64 0, .int .i64 (unfoldN u), .string ⟨#[]⟩], .string r2, .bool true]) (by simp [results, Tryz.results81, go_sem, c0, c1, c2, c3, hz3]) rfl ⟨⟨i, 0, unfoldN u, ⟨#[]⟩⟩, _, _, rfl, (fun _ => unhide hE), (fun h => absurd h (by decide)), Nat.zero_le _, ?_⟩
        exact ((((hx03.setCell (by simp) _).setCell (by simp) _).setCell (by simp) _).setCell (by simp) _).alloc _
      · have hE1 := fun hl => hide (cutP_long (unhide h1) (unhide h2) (by rw [unhide Hkd]; exact hk) hl)
        have hE2 := fun hl => hide (cutP_text (unhide h1) (unhide h2) (by rw [unhide Hkd]; exact hk) hl)
        rw [bytes_len] at hE1 hE2
        rw [unhide Hi, unhide Hkd, ← extract_take, ← extract_end] at hE2
        by_cases hlu : r2.size < u
        · have hE := hE1 hlu
          clear hE1 hE2
          go_wp2
          refine bodyPost_ret (v := .tuple #[.agg #[.int .i64 0, .int .i64 0, .int .i64 0, .string ⟨#[]⟩], .string ⟨#[]⟩, .bool false]) (by simp [results, Tryz.results81, go_sem, c0, c1, c2, c3, hz3]) rfl ⟨⟨0, 0, 0, ⟨#[]⟩⟩, _, _, rfl, (fun h => absurd h (by decide)), (fun _ => unhide hE), Nat.zero_le _, ?_⟩
          exact ((((hx03.setCell (by simp) _).setCell (by simp) _).setCell (by simp) _).setCell (by simp) _).alloc _
        · have hE := hE2 hlu
          clear hE1 hE2
          go_wp2
          go_region
          go_wp2
          refine bodyPost_ret (v := .tuple #[.agg #[.int .i64 i, .int .i64 kd, .int .i64 0, .string (r2.extract 0 u)], .string (r2.extract u r2.size), .bool true]) (by simp [results, Tryz.results81, go_sem, c0, c1, c2, c3, hz3]) rfl ⟨⟨i, kd, 0, r2.extract 0 u⟩, _, _, rfl, (fun _ => unhide hE), (fun h => absurd h (by decide)), ?_, ?_⟩
          · show (r2.extract 0 u).size ≤ 20000
            rw [← bytes_len, extract_data, List.length_take]
            omega
          · exact (((((hx03.setCell (by simp) _).setCell (by simp) _).setCell (by simp) _).setCell (by simp) _).alloc _).drew
end Go.Proofs.YtmdpdgldmedebaaGreatDoor

namespace Go.Proofs.YtmdpdgldmedebaaGreatDoor
set_option linter.unusedSimpArgs false
set_option linter.unusedVariables false
open Go.RowKit

theorem info61 : (Tryz.prog.info? 85).map (fun i => (i.zero, i.size, i.bytes)) = some (some (.agg #[.int .i64 0, .int .i64 0, .int .i64 0, .string ⟨#[]⟩]), 4, 40) := by kernel_rfl
theorem range_of_new4 (w : World) (u0 u1 u2 u3 : Value) (t : TypeId) {g : Nat} (hg : g = w.heap.size) : (w.alloc (.cells #[u0, u1, u2, u3] t)).rangeAt g 0 [u0, u1, u2, u3] := by
  subst hg
  exact World.rangeAt_of_block (heap_alloc_new w _) 0 4
theorem one_part (p : PartM) : ∀ u ∈ p.cells, u.oneCell' = true := by intro u hu; simp at hu; rcases hu with rfl | rfl | rfl | rfl <;> rfl

/-- What Decode answers: the error's number, and the parts. -/
def decE (l : List UInt8) : Int := if 20000 < l.length then 7 else match decR l.length l with | none => 1 | some _ => 0
def decL (l : List UInt8) : List PartM := if 20000 < l.length then [] else (decR l.length l).getD []
theorem decE_none {l : List UInt8} (hl : l.length ≤ 20000) (h : decR l.length l = none) : decE l = 1 ∧ decL l = [] := by
  unfold decE decL; rw [if_neg (by omega), if_neg (by omega), h]; exact ⟨rfl, rfl⟩
theorem decE_some {l : List UInt8} {ps : List PartM} (hl : l.length ≤ 20000) (h : decR l.length l = some ps) : decE l = 0 ∧ decL l = ps := by
  unfold decE decL; rw [if_neg (by omega), if_neg (by omega), h]; exact ⟨rfl, rfl⟩
theorem decE_long {l : List UInt8} (hl : 20000 < l.length) : decE l = 7 ∧ decL l = [] := by
  unfold decE decL; rw [if_pos hl, if_pos hl]; exact ⟨rfl, rfl⟩
def strLen : Value → Nat | .string t => t.size | _ => 0
theorem nil_parts (w : World) : PartsAt w ⟨none, 0, 0⟩ [] := ⟨rfl, fun i x hx => by simp at hx⟩
theorem nil_ok : SV.ok ⟨none, 0, 0⟩ := ⟨Nat.le_refl _, fun _ => rfl⟩
theorem decR_step {t : ByteArray} {p : PartM} {r : ByteArray} (hc : cutP t.data.toList = some (p, r.data.toList)) (hg : goodB p = true) : decR t.size t.data.toList = (decR r.size r.data.toList).map (p :: ·) := by
  have hlt := cutP_lt hc
  rw [bytes_len, bytes_len] at hlt
  have hl := bytes_len t
  cases hh : t.data.toList with
  | nil => rw [hh] at hl; simp at hl; omega
  | cons c l =>
    rw [hh] at hc hl
    simp only [List.length_cons] at hl
    rw [← hl, decR, hc]
    simp only
    rw [if_pos hg, decR_fuel l.length r.size r.data.toList (by rw [bytes_len]; omega) (by rw [bytes_len]; omega)]
theorem decR_fail {t : ByteArray} (hne : t ≠ ⟨#[]⟩) (h : cutP t.data.toList = none ∨ ∃ p r, cutP t.data.toList = some (p, r) ∧ goodB p = false) : decR t.size t.data.toList = none := by
  have hl := bytes_len t
  cases hh : t.data.toList with
  | nil => exact absurd (bytes_ext (by rw [hh])) hne
  | cons c l =>
    rw [hh] at h hl
    simp only [List.length_cons] at hl
    rw [← hl, decR]
    rcases h with h | ⟨p, r, h, hg⟩
    · rw [h]
    · rw [h]; simp only; rw [if_neg (by simp [hg])]

set_option maxHeartbeats 3200000 in
set_option maxRecDepth 10000 in
theorem decode_any (s : ByteArray) (w : World) (hs : s.size ≤ 9223372036854775807) :
    Calls Tryz.prog 58 #[.string s] w fun e w' => ∃ sv : SV, e = .returned (.tuple #[.slice sv.a sv.len sv.cap, .int .i64 (decE s.data.toList)]) ∧ PartsAt w' sv (decL s.data.toList) ∧ sv.ok ∧ Ext w w' := by
  have hl := bytes_len s
  by_cases hlong : 20000 < s.size
  · obtain ⟨e1, e2⟩ := decE_long (l := s.data.toList) (by omega)
    rw [e1, e2]
    go_enter Tryz.func58, Tryz.ntmps58
    go_wp2
    go_ret2
    exact ⟨⟨none, 0, 0⟩, rfl, nil_parts _, nil_ok, Ext.refl _⟩
  · go_enter Tryz.func58, Tryz.ntmps58
    go_wp2
    go_loopw [0, 4] (fun x o wr => ∃ (t : ByteArray) (m : List PartM), x = .string t ∧ m.length + t.size ≤ 20000 ∧ wr.ownsRow w.heap.size 85 4 o m.length (m.flatMap PartM.cells) ∧ decR s.size s.data.toList = (decR t.size t.data.toList).map (m ++ ·) ∧ Ext w wr) (fun x _ _ => strLen x)
    case atStart => exact ⟨s, [], rfl, by simp; omega, World.ownsRow_nil _ _ _ _, by simp, Ext.refl _⟩
    case round =>
      obtain ⟨t, m, rfl, hmt, ho, hE, hx⟩ := hrel
      have HE := hide hE
      clear hE
      by_cases hne : t = ⟨#[]⟩
      · have e : Hid (decR s.data.toList.length s.data.toList = some m) := by
          unfold Hid
          rw [hl, unhide HE, hne]; simp [decR, ByteArray.size]
        subst hne
        obtain ⟨sv, rfl, hsl⟩ := sliceAt_of_owns PartM.cells (fun _ => rfl) ho rfl
        go_wp2
        go_ret2
        obtain ⟨e1, e2⟩ := decE_some (by omega) (unhide e)
        rw [e1, e2]
        exact ⟨sv, rfl, hsl, ok_of_owns ho, hx⟩
      · have hne' : t.toList.isEmpty = false := by
          cases h : t.toList.isEmpty
          · rfl
          · exact absurd ((isEmpty_iff t).1 h) hne
        go_wp2_with fail
        refine (cutPart_any t _ (by omega)).mono ?_
        rintro e w1 ⟨p, r, ok, rfl, ht, hf, hps, hx1⟩
        have hx01 := hx.trans hx1
        have ho1 := owns_ext ho hx1
        cases ok
        · have e : Hid (decR s.data.toList.length s.data.toList = none) := by
            unfold Hid
            rw [hl, unhide HE, decR_fail hne (.inl (hf rfl))]; rfl
          clear ht hf
          go_wp2
          go_ret2
          obtain ⟨e1, e2⟩ := decE_none (by omega) (unhide e)
          rw [e1, e2]
          exact ⟨⟨none, 0, 0⟩, rfl, nil_parts _, nil_ok, hx01.alloc _⟩
        · have Hc := hide (ht rfl)
          clear ht hf
          obtain ⟨gb, hg⟩ : ∃ gb, goodB p = gb := ⟨_, rfl⟩
          have hxB : Ext w1 (w1.alloc (.cells #[.int .i64 p.id, .int .i64 p.kind, .int .i64 p.n, .string p.s] 85)) := (Ext.refl _).alloc _
          have hB := heap_alloc_new w1 (.cells #[.int .i64 p.id, .int .i64 p.kind, .int .i64 p.n, .string p.s] 85)
          have Hga := hide (wgood_any p (w1.alloc (.cells #[.int .i64 p.id, .int .i64 p.kind, .int .i64 p.n, .string p.s] 85)) (by omega))
          rw [hg] at Hga
          go_wp2_with fail
          refine (unhide Hga).mono ?_
          rintro e w2 ⟨rfl, hx2⟩
          have hB2 := hx2.heap hB
          have hx12 := hxB.trans hx2
          cases gb
          · have e : Hid (decR s.data.toList.length s.data.toList = none) := by
              unfold Hid
              rw [hl, unhide HE, decR_fail hne (.inr ⟨p, _, unhide Hc, hg⟩)]; rfl
            go_wp2
            go_ret2
            obtain ⟨e1, e2⟩ := decE_none (by omega) (unhide e)
            rw [e1, e2]
            exact ⟨⟨none, 0, 0⟩, rfl, nil_parts _, nil_ok, hx01.trans hx12⟩
          · have hlt := cutP_lt (unhide Hc)
            rw [bytes_len, bytes_len] at hlt
            have e : Hid (decR s.size s.data.toList = (decR r.size r.data.toList).map ((m ++ [p]) ++ ·)) := by
              unfold Hid
              rw [unhide HE, decR_step (unhide Hc) hg, Option.map_map]
              congr 1
              funext q
              simp
            have ho2 := owns_ext ho1 hx12
            have hz2 : w.heap.size ≤ w2.heap.size := (hx01.trans hx12).size
            have hml : m.length < 1048576 := by omega
            obtain ⟨c0, c1, c2, c3, cf⟩ := row4 hB2
            have Hml := hide hml
            clear hml
            go_wp2_with (at_builtin; refine wpList_app1 _ _ 83 85 (.agg #[.int .i64 0, .int .i64 0, .int .i64 0, .string ⟨#[]⟩]) 4 40 Tryz.underlying83 info61 rfl (by decide) (by decide) rfl rfl w.heap.size _ m.length _ rfl (ho2.alloc _) w2.heap.size 1 p.cells rfl rfl ?c1 ?c2 ?c3 ?c4 ?_)
            case c1 => exact range_of_new4 _ _ _ _ _ _ (by simp)
            case c2 => exact one_part p
            case c3 => exact Hml
            case c4 => simp; omega
            intro v5 w5 ho5 hg5
            have ho5' : w5.ownsRow w.heap.size 85 4 v5 (m ++ [p]).length ((m ++ [p]).flatMap PartM.cells) := by
              rw [List.length_append, List.length_singleton, List.flatMap_append]
              simpa using ho5
            have hx5 : Ext w w5 := Ext.owned ((hx01.trans hx12).alloc _) hg5 (ho2.alloc _) (Nat.le_refl _)
            go_wp2
            go_roundw
            case rel => exact ⟨r, m ++ [p], rfl, by simp; omega, ho5', e, hx5⟩
            case measure => simp [strLen]; omega
end Go.Proofs.YtmdpdgldmedebaaGreatDoor

