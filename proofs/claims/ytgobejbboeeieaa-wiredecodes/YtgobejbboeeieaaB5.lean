import Derived.Test.YtgobejbboeeieaaB2
import Derived.Test.YtgobejbboeeieaaReg2
namespace Go.Proofs.Ytgobejbboeeieaa
set_option linter.unusedSimpArgs false
set_option linter.unusedVariables false
open Go.RowKit

theorem ret_two {a b c d : Int} (h : a = c) (h2 : b = d) : Ending.returned (.tuple #[.int .i64 a, .int .i64 b]) = .returned (.tuple #[.int .i64 c, .int .i64 d]) := by rw [h, h2]
theorem CutTo.some_iff {s : ByteArray} {k u : Nat} (h : CutTo s.data.toList k u) (h6 : k < 6) (hk : k < s.size) (hc : s[k].toNat < 128) :
    (sevB (u + 128 ^ k * (s[k].toNat % 128)) = s.extract 0 (k + 1) ∧ cutN 6 true s.data.toList = some (u + 128 ^ k * (s[k].toNat % 128), s.data.toList.drop (k + 1))) ∨
    (sevB (u + 128 ^ k * (s[k].toNat % 128)) ≠ s.extract 0 (k + 1) ∧ cutN 6 true s.data.toList = Option.none) := by
  have hlen := bytes_len s
  cases hf : (k == 0 || s[k].toNat != 0)
  · right
    have hn := h.zero h6 hk hc hf
    refine ⟨fun e => ?_, hn⟩
    have e1 : sev (u + 128 ^ k * (s[k].toNat % 128)) = s.data.toList.take (k + 1) := by
      have := congrArg (fun b : ByteArray => b.data.toList) e
      simpa [sevB, extract_data] using this
    have hlt : u + 128 ^ k * (s[k].toNat % 128) < 128 ^ (5 + 1) := by
      have h1 := h.1
      have h2 : 128 ^ k * (s[k].toNat % 128) ≤ 128 ^ k * 127 := Nat.mul_le_mul_left _ (by omega)
      have h3 : (128 : Nat) ^ (k + 1) ≤ 128 ^ (5 + 1) := Nat.pow_le_pow_right (by omega) (by omega)
      rw [Nat.pow_succ] at h3
      omega
    have h4 := cut_sev 5 _ true (s.data.toList.drop (k + 1)) hlt rfl
    rw [e1, List.take_append_drop, hn] at h4
    cases h4
  · left
    have hn := h.last h6 hk hc hf
    rw [extract_end] at hn
    refine ⟨?_, hn⟩
    obtain ⟨e, _, _⟩ := sev_cut _ _ _ _ _ hn
    apply bytes_ext
    rw [extract_data]
    show sev _ = _
    have e2 := congrArg (List.take (k + 1)) e
    have hl : (sev (u + 128 ^ k * (s[k].toNat % 128))).length = k + 1 := by
      have := congrArg List.length e
      rw [List.length_append, List.length_drop, hlen] at this
      omega
    rw [List.take_left' hl] at e2
    simpa using e2.symm
theorem CutTo.lt42 {s : ByteArray} {k u : Nat} (h : CutTo s.data.toList k u) (h6 : k < 6) (c : UInt8) : u + 128 ^ k * (c.toNat % 128) < 4398046511104 ∧ 128 ^ k ≤ 34359738368 ∧ 128 ^ k * (c.toNat % 128) ≤ 34359738368 * 127 ∧ u < 34359738368 := by
  have h1 := h.1
  have h3 : (128 : Nat) ^ k ≤ 128 ^ 5 := Nat.pow_le_pow_right (by omega) (by omega)
  have h5 : (128 : Nat) ^ 5 = 34359738368 := by decide
  rw [h5] at h3
  have h2 : 128 ^ k * (c.toNat % 128) ≤ 34359738368 * 127 := Nat.mul_le_mul h3 (by omega)
  omega

set_option maxHeartbeats 3200000 in
set_option maxRecDepth 10000 in
theorem seven_any (s : ByteArray) (w : World) (hs : s.size ≤ 20000) :
    Calls Try.prog 19 #[.string s] w fun e w' => ∃ (n c : Nat), e = .returned (.tuple #[.int .i64 n, .int .i64 c]) ∧ (c = 0 ∧ cutN 6 true s.data.toList = none ∨ 1 ≤ c ∧ c ≤ s.size ∧ cutN 6 true s.data.toList = some (n, s.data.toList.drop c)) ∧ Ext w w' := by
  go_enter Try.func19, Try.ntmps19
  go_wp2
  go_loopw [4, 5, 6] (fun x y i wr => ∃ (k u b : Nat), k ≤ 6 ∧ k ≤ s.size ∧ i = .int .i64 k ∧ x = .int .i64 u ∧ y = .int .i64 b ∧ b = 128 ^ k ∧ CutTo s.data.toList k u ∧ Ext w wr) (fun _ _ i _ => 6 - (intOf i).toNat)
  case atStart => exact ⟨0, 0, 1, by omega, by omega, rfl, rfl, rfl, rfl, CutTo.start _, Ext.refl _⟩
  case round =>
    obtain ⟨k, u, b, hk6, hks, rfl, rfl, rfl, hb, hT, hx⟩ := hrel
    by_cases hlt : k < 6 ∧ k < s.size
    · obtain ⟨h6, hsz⟩ := hlt
      have hc := s[k].toNat_lt
      obtain ⟨m1, m2, m3, m4⟩ := hT.lt42 h6 s[k]
      rw [← hb] at m1 m2 m3
      have Hb := hide hb
      have hmul : (s[k].toNat : Int) % 128 * (b : Int) = ((b * (s[k].toNat % 128) : Nat) : Int) := by
        rw [Nat.mul_comm]; simp
      obtain ⟨q, hq⟩ : ∃ q : Nat, b * (s[k].toNat % 128) = q := ⟨_, rfl⟩
      rw [hq] at m1 m3 hmul
      have Hq := hide hq
      clear hq hb
      by_cases hc1 : s[k].toNat < 128
      · have HI := hide (hT.some_iff h6 hsz hc1)
        rw [← unhide Hb, unhide Hq] at HI
        have i64k : IntKind.i64.wrap ((k : Int) + 1) = (k : Int) + 1 := by rw [IntKind.wrap_i64]; omega
        rcases (unhide HI) with ⟨he, hcut⟩ | ⟨he, hcut⟩
        · have hq : ((sevB (u + q)).toList == (s.extract 0 (k + 1)).toList) = true := by rw [he]; simp
          have Hcut := hide hcut
          clear he hcut HI
          go_wp2_with fail
          refine wp_region_X (fun _ => True) (fun _ => false) (by kernel_rfl) ?_
          refine wpAnyX_take (i := 0) (v := .int .i64 ((u : Int) + q)) rfl (by kernel_rfl) (by kernel_rfl) (fun _ _ _ h => h) (.inl ⟨rfl, fun w' hS => by simp [execOp, go_sem]⟩) trivial ?_
          simp only [Act.put, List.setIfInBounds_toArray, List.set_cons_succ, List.set_cons_zero]
          refine wpAnyX_take (i := 2) (v := .string s) rfl (by kernel_rfl) (by kernel_rfl) (fun _ _ _ h => h) (.inl ⟨rfl, fun w' hS => by simp [execOp, go_sem]⟩) trivial ?_
          simp only [Act.put, List.setIfInBounds_toArray, List.set_cons_succ, List.set_cons_zero]
          refine wpAnyX_take (i := 3) (v := .int .i64 k) rfl (by kernel_rfl) (by kernel_rfl) (fun _ _ _ h => h) (.inl ⟨rfl, fun w' hS => by simp [execOp, go_sem]⟩) trivial ?_
          simp only [Act.put, List.setIfInBounds_toArray, List.set_cons_succ, List.set_cons_zero]
          refine wpAnyX_take (i := 4) (v := .int .i64 ((k : Int) + 1)) rfl (by kernel_rfl) (by kernel_rfl) (fun _ _ _ h => h) (.inl ⟨rfl, fun w' hS => by simp [execOp, go_sem, i64k]⟩) trivial ?_
          simp only [Act.put, List.setIfInBounds_toArray, List.set_cons_succ, List.set_cons_zero]
          refine wpAnyX_take (i := 5) (v := .string (s.extract 0 (k + 1))) rfl (by kernel_rfl) (by kernel_rfl) (fun _ _ _ h => h) (.inl ⟨rfl, fun w' hS => by simp [execOp, go_sem]; intro h; exfalso; have := h (by omega); omega⟩) trivial ?_
          simp only [Act.put, List.setIfInBounds_toArray, List.set_cons_succ, List.set_cons_zero]
          refine wpAnyX_one (j := 1) rfl (by kernel_rfl) rfl fun K hK => ?_
          go_wp2_with fail
          rw [show (u : Int) + (q : Int) = ((u + q : Nat) : Int) by omega]
          refine (sevens_any (u + q) _ m1).mono ?_
          rintro e w3 ⟨rfl, hx3⟩
          have hx03 : Ext wr w3 := ((Ext.refl wr).drew).trans hx3
          go_wp2
          refine hK.out _ _ trivial ?_
          clear hK K
          refine wpAnyX_one (j := 6) rfl (by kernel_rfl) rfl fun K hK => ?_
          go_wp2
          refine hK.out _ _ trivial ?_
          clear hK K
          refine wpAnyX_end [] [] rfl (by intro j i hj; simp at hj) (by kernel_rfl) (by intro i hi; simp at hi) fun K hK => ?_
          go_wp2
          refine hK.out _ _ ?_
          clear hK K
          go_wp2
          go_ret2
          exact ⟨u + q, k + 1, ret_two (by omega) (by omega), .inr ⟨by omega, by omega, unhide Hcut⟩, hx.trans hx03⟩
        · have hq : ((sevB (u + q)).toList == (s.extract 0 (k + 1)).toList) = false := by
            rw [bytes_toList, bytes_toList]
            simpa using fun h => he (bytes_ext h)
          have Hcut := hide hcut
          clear he hcut HI
          go_wp2_with fail
          refine wp_region_X (fun _ => True) (fun _ => false) (by kernel_rfl) ?_
          refine wpAnyX_take (i := 0) (v := .int .i64 ((u : Int) + q)) rfl (by kernel_rfl) (by kernel_rfl) (fun _ _ _ h => h) (.inl ⟨rfl, fun w' hS => by simp [execOp, go_sem]⟩) trivial ?_
          simp only [Act.put, List.setIfInBounds_toArray, List.set_cons_succ, List.set_cons_zero]
          refine wpAnyX_take (i := 2) (v := .string s) rfl (by kernel_rfl) (by kernel_rfl) (fun _ _ _ h => h) (.inl ⟨rfl, fun w' hS => by simp [execOp, go_sem]⟩) trivial ?_
          simp only [Act.put, List.setIfInBounds_toArray, List.set_cons_succ, List.set_cons_zero]
          refine wpAnyX_take (i := 3) (v := .int .i64 k) rfl (by kernel_rfl) (by kernel_rfl) (fun _ _ _ h => h) (.inl ⟨rfl, fun w' hS => by simp [execOp, go_sem]⟩) trivial ?_
          simp only [Act.put, List.setIfInBounds_toArray, List.set_cons_succ, List.set_cons_zero]
          refine wpAnyX_take (i := 4) (v := .int .i64 ((k : Int) + 1)) rfl (by kernel_rfl) (by kernel_rfl) (fun _ _ _ h => h) (.inl ⟨rfl, fun w' hS => by simp [execOp, go_sem, i64k]⟩) trivial ?_
          simp only [Act.put, List.setIfInBounds_toArray, List.set_cons_succ, List.set_cons_zero]
          refine wpAnyX_take (i := 5) (v := .string (s.extract 0 (k + 1))) rfl (by kernel_rfl) (by kernel_rfl) (fun _ _ _ h => h) (.inl ⟨rfl, fun w' hS => by simp [execOp, go_sem]; intro h; exfalso; have := h (by omega); omega⟩) trivial ?_
          simp only [Act.put, List.setIfInBounds_toArray, List.set_cons_succ, List.set_cons_zero]
          refine wpAnyX_one (j := 1) rfl (by kernel_rfl) rfl fun K hK => ?_
          go_wp2_with fail
          rw [show (u : Int) + (q : Int) = ((u + q : Nat) : Int) by omega]
          refine (sevens_any (u + q) _ m1).mono ?_
          rintro e w3 ⟨rfl, hx3⟩
          have hx03 : Ext wr w3 := ((Ext.refl wr).drew).trans hx3
          go_wp2
          refine hK.out _ _ trivial ?_
          clear hK K
          refine wpAnyX_one (j := 6) rfl (by kernel_rfl) rfl fun K hK => ?_
          go_wp2
          refine hK.out _ _ trivial ?_
          clear hK K
          refine wpAnyX_end [] [] rfl (by intro j i hj; simp at hj) (by kernel_rfl) (by intro i hi; simp at hi) fun K hK => ?_
          go_wp2
          refine hK.out _ _ ?_
          clear hK K
          go_wp2
          go_ret2
          exact ⟨0, 0, rfl, .inl ⟨rfl, unhide Hcut⟩, hx.trans hx03⟩
      · have HN := hide (hT.next h6 hsz hc1)
        rw [← unhide Hb, unhide Hq] at HN
        go_wp2
        exact ⟨⟨k + 1, u + q, b * 128, by omega, by omega, by go_num, by go_num, by go_num, by rw [unhide Hb, Nat.pow_succ], unhide HN, hx⟩, by simp [intOf]; omega⟩
    · have HN := hide (hT.none (by omega))
      go_wp2
      all_goals go_ret2
      all_goals exact ⟨0, 0, rfl, .inl ⟨rfl, unhide HN⟩, hx⟩
end Go.Proofs.Ytgobejbboeeieaa
