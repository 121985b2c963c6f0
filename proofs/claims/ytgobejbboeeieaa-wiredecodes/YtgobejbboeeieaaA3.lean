import Derived.Test.YtgobejbboeeieaaA2
import Derived.Test.YtgobejbboeeieaaProg
namespace Go.Proofs.Ytgobejbboeeieaa
set_option linter.unusedSimpArgs false
set_option linter.unusedVariables false
open Go.RowKit

theorem hide {p : Prop} (h : p) : Hid p := h
theorem unhide {p : Prop} (h : Hid p) : p := h
theorem ret_int {k : IntKind} {a b : Int} (h : a = b) : Ending.returned (.int k a) = .returned (.int k b) := by rw [h]

theorem and_one (u : Nat) (h : u < 4398046511104) : bits .and .u64 (u : Int) 1 = ((u % 2 : Nat) : Int) := by
  have := bits_and_u64_nat u 1 (by omega) (by omega)
  rw [Nat.and_one_is_mod] at this
  exact this
theorem and_three (u : Nat) (h : u < 4398046511104) : bits .and .u64 (u : Int) 3 = ((u % 4 : Nat) : Int) := by
  have := bits_and_u64_nat u 3 (by omega) (by omega)
  have e : u &&& 3 = u % 4 := Nat.and_two_pow_sub_one_eq_mod u 2
  rw [e] at this
  exact this

set_option maxHeartbeats 400000 in
theorem unfold_any (u : Nat) (w : World) (hu : u < 4398046511104) :
    Calls Try.prog 25 #[.int .u64 u] w fun e w' => e = .returned (.int .i64 (unfoldN u)) ∧ w' = w := by
  have h1 := and_one u hu
  have E : Hid (unfoldN u = if u % 2 = 1 then -(u / 2 : Int) - 1 else (u / 2 : Int)) := rfl
  by_cases h : u % 2 = 1
  · rw [h] at h1
    go_enter Try.func25, Try.ntmps25
    go_wp2
    go_ret
    exact ⟨ret_int (by rw [unhide E, if_pos h]), rfl⟩
  · have h0 : u % 2 = 0 := by omega
    rw [h0] at h1
    go_enter Try.func25, Try.ntmps25
    go_wp2
    go_ret
    exact ⟨ret_int (by rw [unhide E, if_neg h]), rfl⟩
set_option maxHeartbeats 400000 in
theorem fold_any (n : Int) (w : World) (hn : -1099511627776 ≤ n) (hm : n ≤ 1099511627776) :
    Calls Try.prog 22 #[.int .i64 n] w fun e w' => e = .returned (.int .u64 (foldN n)) ∧ w' = w := by
  have E : Hid (foldN n = if n < 0 then (-2 * n - 1).toNat else (2 * n).toNat) := rfl
  by_cases h : n < 0
  · go_enter Try.func22, Try.ntmps22
    go_wp2
    go_ret
    exact ⟨ret_int (by rw [unhide E, if_pos h]; omega), rfl⟩
  · go_enter Try.func22, Try.ntmps22
    go_wp2
    go_ret
    exact ⟨ret_int (by rw [unhide E, if_neg (by omega)]; omega), rfl⟩
set_option maxHeartbeats 400000 in
theorem headOf_any (p : PartM) (w : World) (hg : p.good) :
    Calls Try.prog 21 #[.agg #[.int .i64 p.id, .int .i64 p.kind, .int .i64 p.n, .string p.s]] w fun e w' => e = .returned (.int .u64 (headN p)) ∧ Ext w w' := by
  obtain ⟨id, kind, n, s⟩ := p
  obtain ⟨h1, h2, h3⟩ := hg
  simp only at h1 h2 h3
  have h4 : 0 ≤ kind ∧ kind ≤ 2 := by omega
  have E : Hid (headN ⟨id, kind, n, s⟩ = (4 * id + kind).toNat) := rfl
  clear h3
  obtain ⟨i, rfl⟩ : ∃ i : Nat, id = i := ⟨id.toNat, by omega⟩
  obtain ⟨k, rfl⟩ : ∃ k : Nat, kind = k := ⟨kind.toNat, by omega⟩
  have hb : bits .or .u64 ((i : Int) * 4) (k : Int) = ((4 * i + k : Nat) : Int) := by
    have := bits_or_u64_nat (4 * i) k (by omega) (by omega)
    have e := Nat.two_pow_add_eq_or_of_lt (i := 2) (b := k) (by omega) i
    rw [show (2 : Nat) ^ 2 = 4 from rfl] at e
    rw [← e] at this
    rw [show (i : Int) * 4 = ((4 * i : Nat) : Int) by omega]
    exact this
  go_enter Try.func21, Try.ntmps21
  go_wp2
  go_ret
  exact ⟨ret_int (by rw [unhide E]; omega), (Ext.refl _).alloc _⟩
set_option maxHeartbeats 400000 in
theorem partOf_any (u : Nat) (w : World) (hu : u < 4398046511104) :
    Calls Try.prog 24 #[.int .u64 u] w fun e w' => e = .returned (.agg #[.int .i64 (u / 4 : Nat), .int .i64 (u % 4 : Nat), .int .i64 0, .string ⟨#[]⟩]) ∧ Ext w w' := by
  have h1 := and_three u hu
  go_enter Try.func24, Try.ntmps24
  go_wp2
  refine bodyPost_ret (v := .agg #[.int .i64 ((u : Int) / 4), .int .i64 ((u : Int) % 4), .int .i64 0, .string ⟨#[]⟩]) (by simp [results, Try.results24, go_sem]) rfl ⟨?_, (Ext.refl _).alloc _⟩
  rw [show ((u / 4 : Nat) : Int) = (u : Int) / 4 by omega, show ((u % 4 : Nat) : Int) = (u : Int) % 4 by omega]
end Go.Proofs.Ytgobejbboeeieaa
