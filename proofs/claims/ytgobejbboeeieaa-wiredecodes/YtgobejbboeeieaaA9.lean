import Derived.Test.YtgobejbboeeieaaA8
namespace Go.Proofs.Ytgobejbboeeieaa
set_option linter.unusedSimpArgs false
set_option linter.unusedVariables false
open Go.RowKit

theorem Ext.drewN {a w : World} (h : Ext a w) (n : Nat) : Ext a (w.drewN n) := by
  induction n with
  | zero => exact h
  | succ n ih => exact ih.drew
theorem ret_cut {a b : Int} {r : ByteArray} {ok : Bool} (h : a = b) : Ending.returned (.tuple #[.int .u64 a, .string r, .bool ok]) = .returned (.tuple #[.int .u64 b, .string r, .bool ok]) := by rw [h]

set_option maxHeartbeats 3200000 in
set_option maxRecDepth 10000 in
theorem cutNumber_any (s : ByteArray) (w : World) (hs : s.size ≤ 20000) :
    Calls Try.prog 23 #[.string s] w fun e w' => ∃ (u : Nat) (r : ByteArray) (ok : Bool), e = .returned (.tuple #[.int .u64 u, .string r, .bool ok]) ∧ (ok = true → cutN 6 true s.data.toList = some (u, r.data.toList)) ∧ (ok = false → cutN 6 true s.data.toList = none) ∧ Ext w w' := by
  have hmin : ∃ m : Nat, (s.size ≤ 6 ∧ m = s.size ∨ 6 < s.size ∧ m = 6) := by
    by_cases h : s.size ≤ 6
    · exact ⟨s.size, .inl ⟨h, rfl⟩⟩
    · exact ⟨6, .inr ⟨by omega, rfl⟩⟩
  obtain ⟨m, hm⟩ := hmin
  have hm6 : m ≤ 6 := by omega
  have hms : m ≤ s.size := by omega
  have hmo : 6 ≤ m ∨ s.size ≤ m := by omega
  go_enter Try.func23, Try.ntmps23
  go_wp2
  case' inl => rw [show (6 : Int) = (m : Int) by omega]
  case' inr => rw [show (s.size : Int) = (m : Int) by omega]
  all_goals clear hm
  all_goals
    go_loopw [5, 10] (fun x i wr => ∃ (k u : Nat), k ≤ m ∧ i = .int .i64 k ∧ x = .int .u64 u ∧ CutTo s.data.toList k u ∧ Ext w wr) (fun _ i _ => m - (intOf i).toNat)
    case atStart => exact ⟨0, 0, by omega, rfl, rfl, CutTo.start _, Ext.refl _⟩
    case round =>
      obtain ⟨k, u, hkm, rfl, rfl, hT, hx⟩ := hrel
      by_cases hlt : k < m
      · have h6 : k < 6 := by omega
        have hsz : k < s.size := by omega
        have hmask := and_127 s[k]
        have hc := s[k].toNat_lt
        have hor := or_shift u k s[k] h6 hT.1
        by_cases hc1 : s[k].toNat < 128
        · by_cases hk0 : k = 0
          · have Hlast := hide (hT.last h6 hsz hc1 (by simp [hk0]))
            subst hk0
            have hu0 : u = 0 := by have := hT.1; simp at this; exact this
            subst hu0
            have ho0 := or_none s[0]
            clear hor
            go_wp2
            go_quiet (fail)
            go_wp2
            go_ret3
            exact ⟨_, _, true, ret_cut (by simp), fun _ => unhide Hlast, (fun h => absurd h (by decide)), hx.drewN _⟩
          · have hkz : ((k : Int) == 0) = false := by simp; omega
            by_cases hz : s[k].toNat = 0
            · have Hz := hide (hT.zero h6 hsz hc1 (by simp [hk0, hz]))
              have hzz : ((s[k].toNat : Int) != 0) = false := by simp [hz]
              have Hzz := hide hz
              clear hz hk0
              go_wp2
              go_quiet (fail)
              go_wp2
              go_ret3
              exact ⟨u + 128 ^ k * (s[k].toNat % 128), _, false, ret_cut (by simp), (fun h => absurd h (by decide)), fun _ => unhide Hz, hx.drewN _⟩
            · have Hlast := hide (hT.last h6 hsz hc1 (by simp [hz]))
              have hzz : ((s[k].toNat : Int) != 0) = true := by simp; omega
              clear hk0
              go_wp2
              go_quiet (fail)
              go_wp2
              go_ret3
              exact ⟨_, _, true, ret_cut (by simp), fun _ => unhide Hlast, (fun h => absurd h (by decide)), hx.drewN _⟩
        · have HN := hide (hT.next h6 hsz hc1)
          go_wp2
          exact ⟨⟨k + 1, _, by omega, by go_num, by simp, unhide HN, hx⟩, by simp [intOf]; omega⟩
      · have HN := hide (hT.none (by omega))
        go_wp2
        go_ret3
        exact ⟨0, _, false, rfl, (fun h => absurd h (by decide)), fun _ => unhide HN, hx⟩
end Go.Proofs.Ytgobejbboeeieaa
