import Derived.Test.YtblkgaoafejefaaDoorW2
namespace Go.Proofs.YtblkgaoafejefaaDoor
set_option linter.unusedSimpArgs false
set_option linter.unusedVariables false
open Go.RowKit

theorem IntsAt.cell {w : World} {s : SV} {l : List Int} (h : IntsAt w s l) {k : Nat} (hk : k < l.length) : ∃ b o, s.a = some ⟨b, o, none⟩ ∧ w.cell? ⟨b, o + k, none⟩ = some (.int .i64 l[k]) := by
  obtain ⟨b, o, cs, h1, h2, rfl⟩ := h.2 k l[k] (by simp [hk])
  have := range1 h2
  rw [Nat.mul_one] at this
  exact ⟨b, o, h1, this⟩

def risesAt (lo hi : Int) (l : List Int) (i : Nat) : Bool := decide (lo ≤ l.getD i 0) && decide (l.getD i 0 ≤ hi) && (i == 0 || decide (l.getD (i - 1) 0 < l.getD i 0))
def risingL (l : List Int) (lo hi : Int) : Bool := (List.range l.length).all (risesAt lo hi l)
def AllTo (p : Nat → Bool) (k : Nat) : Prop := ∀ j, j < k → p j = true
theorem AllTo.zero (p : Nat → Bool) : AllTo p 0 := fun _ h => by omega
theorem AllTo.succ {p : Nat → Bool} {k : Nat} (h : AllTo p k) (hp : p k = true) : AllTo p (k + 1) := fun j hj => by
  by_cases e : j = k
  · subst e; exact hp
  · exact h j (by omega)
theorem AllTo.all {p : Nat → Bool} {k n : Nat} (h : AllTo p k) (hk : n ≤ k) : (List.range n).all p = true := by
  rw [List.all_eq_true]
  intro x hx
  exact h x (by have := List.mem_range.1 hx; omega)
theorem not_all_range {p : Nat → Bool} {k n : Nat} (hk : k < n) (hp : p k = false) : (List.range n).all p = false := by
  rw [List.all_eq_false]
  exact ⟨k, List.mem_range.2 hk, by simp [hp]⟩

theorem risesAt_iff {lo hi : Int} {l : List Int} {k : Nat} (hk : k < l.length) : risesAt lo hi l k = true ↔ (lo ≤ l[k] ∧ l[k] ≤ hi ∧ (k = 0 ∨ l[k - 1] < l[k])) := by
  have h1 : l.getD k 0 = l[k] := by simp [List.getD, hk]
  have h2 : l.getD (k - 1) 0 = l[k - 1] := by simp [List.getD, show k - 1 < l.length by omega]
  unfold risesAt
  rw [h1, h2]
  simp only [Bool.and_eq_true, decide_eq_true_eq, Bool.or_eq_true, beq_iff_eq, and_assoc]
theorem rises_yes {lo hi : Int} {l : List Int} {k : Nat} (hk : k < l.length) (h : lo ≤ l[k] ∧ l[k] ≤ hi ∧ (k = 0 ∨ l[k - 1] < l[k])) : risesAt lo hi l k = true := (risesAt_iff hk).2 h
theorem rises_no {lo hi : Int} {l : List Int} {k : Nat} (hk : k < l.length) (h : ¬ (lo ≤ l[k] ∧ l[k] ≤ hi ∧ (k = 0 ∨ l[k - 1] < l[k]))) : risingL l lo hi = false :=
  not_all_range hk (by rw [Bool.eq_false_iff]; exact fun e => h ((risesAt_iff hk).1 e))

set_option maxHeartbeats 400000 in
theorem rising_any (s : SV) (l : List Int) (lo hi : Int) (w : World) (hs : IntsAt w s l) (hn : l.length ≤ 9223372036854775807) :
    Calls Tryd.prog 54 #[.slice s.a s.len s.cap, .int .i64 lo, .int .i64 hi] w fun e w' => e = .returned (.bool (risingL l lo hi)) ∧ Ext w w' := by
  obtain ⟨a, n, cap⟩ := s
  have hl := hs.1
  simp only at hl
  subst hl
  show Calls Tryd.prog 54 #[.slice a l.length cap, .int .i64 lo, .int .i64 hi] w _
  go_enter Tryd.func54, Tryd.ntmps54
  go_wp2
  go_loopw [11] (fun i wr => ∃ k : Nat, k ≤ l.length ∧ i = .int .i64 k ∧ AllTo (risesAt lo hi l) k ∧ Ext w wr) (fun i wr => l.length - (intOf i).toNat)
  case atStart => exact ⟨0, by omega, rfl, AllTo.zero _, Ext.refl w⟩
  case round =>
    obtain ⟨k, hk, rfl, hne, hx⟩ := hrel
    by_cases hlt : k < l.length
    · obtain ⟨b, o, rfl, h0⟩ := hs.cell hlt
      replace h0 := hx.cell h0
      by_cases hz : k < 1
      · clear hs
        go_wp2
        · go_ret
          exact ⟨by rw [rises_no hlt (by omega)]; rfl, hx⟩
        · exact ⟨⟨k + 1, by omega, by go_num, hne.succ (rises_yes hlt (by omega)), hx⟩, by simp [intOf]; omega⟩
        · go_ret
          exact ⟨by rw [rises_no hlt (by omega)]; rfl, hx⟩
      · obtain ⟨b2, o2, e2, h1⟩ := hs.cell (show k - 1 < l.length by omega)
        simp only [Option.some.injEq, Addr.mk.injEq] at e2
        obtain ⟨rfl, rfl, _⟩ := e2
        replace h1 := hx.cell h1
        clear hs
        go_wp2
        · go_ret
          exact ⟨by rw [rises_no hlt (by omega)]; rfl, hx⟩
        · go_ret
          exact ⟨by rw [rises_no hlt (by omega)]; rfl, hx⟩
        · exact ⟨⟨k + 1, by omega, by go_num, hne.succ (rises_yes hlt (by omega)), hx⟩, by simp [intOf]; omega⟩
        · go_ret
          exact ⟨by rw [rises_no hlt (by omega)]; rfl, hx⟩
    · go_wp2
      go_ret
      have e : risingL l lo hi = true := AllTo.all hne (by omega)
      exact ⟨by rw [e]; rfl, hx⟩
end Go.Proofs.YtblkgaoafejefaaDoor
