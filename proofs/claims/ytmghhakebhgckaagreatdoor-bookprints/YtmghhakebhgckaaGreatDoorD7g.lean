import Derived.Test.YtmghhakebhgckaaGreatDoorD6g
namespace Go.Proofs.YtmghhakebhgckaaGreatDoor
set_option linter.unusedSimpArgs false
set_option linter.unusedVariables false
open Go.RowKit

theorem digitsB (u : Nat) (h : u < 10) : (⟨#[48, 49, 50, 51, 52, 53, 54, 55, 56, 57]⟩ : ByteArray).extract u (u + 1) = ⟨(Lib.decDigits u).toArray⟩ := by
  rw [dec_lt h]
  have : u = 0 ∨ u = 1 ∨ u = 2 ∨ u = 3 ∨ u = 4 ∨ u = 5 ∨ u = 6 ∨ u = 7 ∨ u = 8 ∨ u = 9 := by omega
  rcases this with rfl | rfl | rfl | rfl | rfl | rfl | rfl | rfl | rfl | rfl <;> rfl
set_option maxHeartbeats 1600000 in
theorem decimal_digit (u : Nat) (h : u < 10) (w : World) : Calls Tryz.prog 43 #[.int .i64 u] w fun e w' => e = .returned (.string ⟨(Lib.decDigits u).toArray⟩) ∧ w' = w := by
  have HD := hide (digitsB u h)
  have h9 : ¬ (9 < (u : Int)) := by omega
  have h0 : ¬ ((u : Int) < 0) := by omega
  have hslc : (Instr.slice 9 (.string ⟨#[48, 49, 50, 51, 52, 53, 54, 55, 56, 57]⟩) (some (.int .i64 u)) (some (.int .i64 ((u : Int) + 1))) none).run Tryz.prog w = .ok (.string ((⟨#[48, 49, 50, 51, 52, 53, 54, 55, 56, 57]⟩ : ByteArray).extract u (u + 1))) w := by
    have h' := run_slice_string (P := Tryz.prog) (w := w) 9 ⟨#[48, 49, 50, 51, 52, 53, 54, 55, 56, 57]⟩ .i64 .i64 (u : Int) ((u : Int) + 1) Tryz.underlying9 (by omega) (by omega) (by show (u : Int) + 1 ≤ 10; omega)
    rw [h']
    rw [show ((u : Int)).toNat = u by omega, show ((u : Int) + 1).toNat = u + 1 by omega]
  go_enter Tryz.func43, Tryz.ntmps43
  go_wp2
  go_ret
  exact ⟨congrArg (fun x => Ending.returned (.string x)) (unhide HD), rfl⟩
theorem dec_size (u : Nat) (h : u ≤ 1099511627776) : (ByteArray.mk (Lib.decDigits u).toArray).size ≤ 13 := by
  have := dec_len 12 u (by omega)
  simpa [ByteArray.size] using this
theorem dec_join {u : Nat} (h : ¬ u < 10) : (⟨(Lib.decDigits (u / 10)).toArray⟩ : ByteArray) ++ ⟨(Lib.decDigits (u % 10)).toArray⟩ = ⟨(Lib.decDigits u).toArray⟩ := by
  rw [dec_ge h, dec_lt (u := u % 10) (by omega)]
  apply toList_inj
  rw [bytes_toList, bytes_toList]
  simp
set_option maxHeartbeats 1600000 in
theorem decimal_nat (u : Nat) : u ≤ 1099511627776 → ∀ w : World, Calls Tryz.prog 43 #[.int .i64 u] w fun e w' => e = .returned (.string ⟨(Lib.decDigits u).toArray⟩) ∧ w' = w := by
  induction u using Nat.strongRecOn with
  | ind u ih =>
    intro hu w
    by_cases h : u < 10
    · exact decimal_digit u h w
    · have h9 : 9 < (u : Int) := by omega
      have h0 : ¬ ((u : Int) < 0) := by omega
      have HJ := hide (dec_join h)
      have s1 := dec_size (u / 10) (by omega)
      have s2 := dec_size (u % 10) (by omega)
      have hq : (u : Int) / 10 = ((u / 10 : Nat) : Int) := by omega
      have hr : (u : Int) % 10 = ((u % 10 : Nat) : Int) := by omega
      have Hq := hide hq
      have Hr := hide hr
      have I1 := hide (ih (u / 10) (by omega) (by omega))
      have I2 := hide (ih (u % 10) (by omega) (by omega))
      clear hq hr ih
      go_enter Tryz.func43, Tryz.ntmps43
      go_wp2_with fail
      rw [unhide Hq]
      refine (unhide I1 _).mono ?_
      rintro e w1 ⟨rfl, rfl⟩
      generalize (ByteArray.mk (Lib.decDigits (u / 10)).toArray) = d1 at *
      go_wp2_with fail
      rw [unhide Hr]
      refine (unhide I2 _).mono ?_
      rintro e w1 ⟨rfl, rfl⟩
      generalize (ByteArray.mk (Lib.decDigits (u % 10)).toArray) = d2 at *
      go_wp2
      go_ret
      exact ⟨congrArg (fun x => Ending.returned (.string x)) (unhide HJ), rfl⟩
theorem itoa_neg {n : Int} (h : n < 0) : (⟨#[45]⟩ : ByteArray) ++ ⟨(Lib.decDigits n.natAbs).toArray⟩ = itoaB n := by
  apply toList_inj
  rw [itoaB_list, Lib.itoa, if_pos h, bytes_toList]
  simp
set_option maxHeartbeats 1600000 in
theorem decimal_any (n : Int) (h1 : -1099511627776 ≤ n) (h2 : n ≤ 1099511627776) (w : World) : Calls Tryz.prog 43 #[.int .i64 n] w fun e w' => e = .returned (.string (itoaB n)) ∧ w' = w := by
  by_cases h : n < 0
  · have HJ := hide (itoa_neg h)
    have I1 := hide (decimal_nat n.natAbs (by omega))
    have hq : -n = ((n.natAbs : Nat) : Int) := by omega
    have Hq := hide hq
    have s1 := dec_size n.natAbs (by omega)
    clear hq
    go_enter Tryz.func43, Tryz.ntmps43
    go_wp2_with fail
    rw [unhide Hq]
    refine (unhide I1 _).mono ?_
    rintro e w1 ⟨rfl, rfl⟩
    generalize (ByteArray.mk (Lib.decDigits n.natAbs).toArray) = d1 at *
    go_wp2
    go_ret
    exact ⟨congrArg (fun x => Ending.returned (.string x)) (unhide HJ), rfl⟩
  · obtain ⟨u, rfl⟩ := Int.eq_ofNat_of_zero_le (show 0 ≤ n by omega)
    have e : itoaB (u : Int) = ⟨(Lib.decDigits u).toArray⟩ := by unfold itoaB Lib.itoa; rw [if_neg h]; rfl
    rw [e]
    exact decimal_nat u (by omega) w
end Go.Proofs.YtmghhakebhgckaaGreatDoor
