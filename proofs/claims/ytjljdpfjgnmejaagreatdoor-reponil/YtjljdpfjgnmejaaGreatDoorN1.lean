import Derived.Test.YtjljdpfjgnmejaaGreatDoorChecked
import Derived.WalkKit
import Derived.Deep.MidRow
namespace Go.Proofs.YtjljdpfjgnmejaaGreatDoor
set_option linter.unusedSimpArgs false
set_option linter.unusedVariables false
open Go.RowKit

/-- Nothing that was there has turned. -/
abbrev Ext (w w' : World) : Prop := Below w.heap.size w w'
theorem Ext.refl (w : World) : Ext w w := Below.refl _ _
theorem Ext.trans {a b c : World} (h : Ext a b) (k : Ext b c) : Ext a c := Below.trans h (k.mono h.size)
theorem Ext.alloc {a w : World} (h : Ext a w) (o : Obj) : Ext a (w.alloc o) := Below.alloc h h.size o
theorem Ext.setCell {a w : World} (h : Ext a w) {p : Addr} (hp : a.heap.size ≤ p.block) (u : Value) : Ext a (w.setCell p u) := Below.setCell h hp u

theorem refused_any (n : Int) (w : World) : Calls Tryz.prog 9 #[.int .i64 n] w fun e w' => e = .returned (.agg #[.int .i64 n, .int .i64 0, .string ⟨#[]⟩, .slice none 0 0]) ∧ Ext w w' := by
  go_enter Tryz.func9, Tryz.ntmps9
  go_wp2
  exact bodyPost_ret (v := .agg #[.int .i64 n, .int .i64 0, .string ⟨#[]⟩, .slice none 0 0]) (by simp [results, Tryz.results9, go_sem]) rfl ⟨rfl, by first | exact Ext.refl w | exact (Ext.refl w).alloc _ | exact ((Ext.refl w).alloc _).setCell (by simp) _ | exact (((((Ext.refl w).alloc _).setCell (by simp) _).setCell (by simp) _).setCell (by simp) _).setCell (by simp) _⟩
theorem doNil_any (k n m : Int) (s1 s2 s3 : ByteArray) (w : World) : Calls Tryz.prog 5 #[.pointer none, .agg #[.int .i64 k, .int .i64 n, .int .i64 m, .string s1, .string s2, .string s3]] w fun e w' => e = .returned (.agg #[.int .i64 3, .int .i64 0, .string ⟨#[]⟩, .slice none 0 0]) ∧ Ext w w' := by
  go_enter Tryz.func5, Tryz.ntmps5
  go_wp2_with fail
  refine (refused_any 3 _).mono ?_
  rintro e w1 ⟨rfl, x1⟩
  have h0 := (Ext.refl _).alloc (a := (w.alloc (.cells #[.int .i64 k, .int .i64 n, .int .i64 m, .string s1, .string s2, .string s3] 23))) (.cells #[.int .i64 0, .int .i64 0, .string ⟨#[]⟩, .slice none 0 0] 29)
  have hx : Ext w w1 := (((Ext.refl w).alloc _).alloc _).trans x1
  have hb : w1.heap[w.heap.size + 1]? = some (.cells #[.int .i64 0, .int .i64 0, .string ⟨#[]⟩, .slice none 0 0] 29 (0, 0)) := by
    have := heap_alloc2_new w (.cells #[.int .i64 k, .int .i64 n, .int .i64 m, .string s1, .string s2, .string s3] 23) (.cells #[.int .i64 0, .int .i64 0, .string ⟨#[]⟩, .slice none 0 0] 29)
    have hlt : w.heap.size + 1 < ((w.alloc (.cells #[.int .i64 k, .int .i64 n, .int .i64 m, .string s1, .string s2, .string s3] 23)).alloc (.cells #[.int .i64 0, .int .i64 0, .string ⟨#[]⟩, .slice none 0 0] 29)).heap.size := by simp
    rw [Below.block x1 _ hlt]; exact this
  have hz : w.heap.size + 1 < w1.heap.size := by have := x1.size; simp at this; omega
  have c0 := cell_of_row w1 _ 0 _ _ _ hb
  have c1 := cell_of_row w1 _ 1 _ _ _ hb
  have c2 := cell_of_row w1 _ 2 _ _ _ hb
  have c3 := cell_of_row w1 _ 3 _ _ _ hb
  have cf : ∀ j, w1.frozen? ⟨w.heap.size + 1, j, none⟩ = false := fun j => frozen_of_row w1 _ j _ _ hb
  go_wp2
  refine bodyPost_ret (v := .agg #[.int .i64 3, .int .i64 0, .string ⟨#[]⟩, .slice none 0 0]) (by clear cf; simp [results, Tryz.results5, go_sem, c0, c1, c2, c3, hz]) rfl ⟨rfl, ?_⟩
  exact (((hx.setCell (by simp) _).setCell (by simp) _).setCell (by simp) _).setCell (by simp) _
theorem commitsNil_any (w : World) : Calls Tryz.prog 6 #[.pointer none] w fun e w' => e = .returned (.slice none 0 0) ∧ w' = w := by
  go_enter Tryz.func6, Tryz.ntmps6
  go_wp2
  go_ret
  exact ⟨rfl, rfl⟩
theorem refsNil_any (w : World) : Calls Tryz.prog 7 #[.pointer none] w fun e w' => e = .returned (.slice none 0 0) ∧ w' = w := by
  go_enter Tryz.func7, Tryz.ntmps7
  go_wp2
  go_ret
  exact ⟨rfl, rfl⟩
theorem sameFlawsNil_any (w : World) : Calls Tryz.prog 8 #[.slice none 0 0, .slice none 0 0] w fun e w' => e = .returned (.bool true) ∧ Ext w w' := by
  go_enter Tryz.func8, Tryz.ntmps8
  go_wp2
  go_loopw [13] (fun i wr => i = .int .i64 0 ∧ wr = w) (fun _ _ => 0)
  case atStart => exact ⟨rfl, rfl⟩
  case round =>
    obtain ⟨rfl, rfl⟩ := hrel
    go_wp2
    go_ret
    exact ⟨rfl, Ext.refl _⟩
theorem sameReply_any (n : Int) (w : World) : Calls Tryz.prog 4 #[.agg #[.int .i64 n, .int .i64 0, .string ⟨#[]⟩, .slice none 0 0], .agg #[.int .i64 n, .int .i64 0, .string ⟨#[]⟩, .slice none 0 0]] w fun e w' => e = .returned (.bool true) ∧ Ext w w' := by
  have hx : Ext w ((w.alloc (.cells #[.int .i64 n, .int .i64 0, .string ⟨#[]⟩, .slice none 0 0] 29)).alloc (.cells #[.int .i64 n, .int .i64 0, .string ⟨#[]⟩, .slice none 0 0] 29)) := ((Ext.refl w).alloc _).alloc _
  go_enter Tryz.func4, Tryz.ntmps4
  go_wp2_with fail
  refine (sameFlawsNil_any _).mono ?_
  rintro e w1 ⟨rfl, x1⟩
  go_wp2
  go_ret
  exact ⟨rfl, hx.trans x1⟩
theorem repoNil_calls (k n m : Int) (s1 s2 s3 : ByteArray) (w : World) : Calls Tryz.prog 3 #[.agg #[.int .i64 k, .int .i64 n, .int .i64 m, .string s1, .string s2, .string s3]] w fun e w' => e = .returned (.bool true) ∧ Ext w w' := by
  go_enter Tryz.func3, Tryz.ntmps3
  go_wp2_with fail
  refine (doNil_any k n m s1 s2 s3 _).mono ?_
  rintro e w1 ⟨rfl, x1⟩
  have h1 : Ext w w1 := ((Ext.refl w).alloc _).trans x1
  go_wp2_with fail
  refine (sameReply_any 3 _).mono ?_
  rintro e w2 ⟨rfl, x2⟩
  have h2 := h1.trans x2
  go_wp2_with fail
  refine (commitsNil_any _).mono ?_
  rintro e w3 ⟨rfl, e3⟩
  subst e3
  go_wp2_with fail
  refine (refsNil_any _).mono ?_
  rintro e w4 ⟨rfl, e4⟩
  subst e4
  go_wp2
  go_ret
  exact ⟨rfl, h2⟩
end Go.Proofs.YtjljdpfjgnmejaaGreatDoor
