import Derived.Test.YtmghhakebhgckaaGreatDoorG2
import Derived.Deep.QuietTactic
import Derived.BigQuiet
import Derived.OrdersHeld
namespace Go.Proofs.YtmghhakebhgckaaGreatDoor
set_option linter.unusedSimpArgs false
set_option linter.unusedVariables false
set_option linter.unusedSimpArgs false
set_option linter.unusedVariables false
open Go.RowKit

theorem grown_trans {a b c : World} {r : Option Nat} (h : a.grownBy b r) (k : b.grownBy c r) : a.grownBy c r :=
  ⟨k.os.trans h.os, k.tape.trans h.tape, k.output.trans h.output, Nat.le_trans h.size k.size, fun i hi hn => (k.block i (Nat.lt_of_lt_of_le hi h.size) hn).trans (h.block i hi hn)⟩
theorem Ext.grows {a b : World} (h : Ext a b) (r : Option Nat) : a.grownBy b r := ⟨h.os, h.tape, h.output, h.size, fun i hi _ => Below.block h i hi⟩
theorem grown_setCell (w : World) (g o : Nat) (u : Value) : w.grownBy (w.setCell ⟨g, o, none⟩ u) (some g) :=
  ⟨rfl, rfl, rfl, by simp [World.setCell], fun i _ hn => Below.heap_setCell _ _ _ _ (fun e => hn (by rw [e]))⟩
theorem grown_drewN (w : World) (n : Nat) (r : Option Nat) : w.grownBy (w.drewN n) r := ⟨rfl, rfl, rfl, Nat.le_refl _, fun _ _ _ => rfl⟩

/-- A reader lies in block g: its text, where it is, and whether something went wrong. -/
def RdAt (w : World) (g : Nat) (s : ByteArray) (k : Int) (bad : Bool) : Prop := w.heap[g]? = some (.cells #[.string s, .int .i64 k, .bool bad] 75 (0, 0))
theorem RdAt.cells {w : World} {g : Nat} {s : ByteArray} {k : Int} {bad : Bool} (h : RdAt w g s k bad) :
    w.cell? ⟨g, 0, none⟩ = some (.string s) ∧ w.cell? ⟨g, 1, none⟩ = some (.int .i64 k) ∧ w.cell? ⟨g, 2, none⟩ = some (.bool bad) ∧ ∀ j, w.frozen? ⟨g, j, none⟩ = false :=
  ⟨cell_of_row w g 0 _ _ _ h, cell_of_row w g 1 _ _ _ h, cell_of_row w g 2 _ _ _ h, fun j => frozen_of_row w g j _ _ h⟩
theorem RdAt.setAt {w : World} {g : Nat} {s : ByteArray} {k : Int} {bad : Bool} (h : RdAt w g s k bad) (k' : Int) : RdAt (w.setCell ⟨g, 1, none⟩ (.int .i64 k')) g s k' bad := heap_setCell_same w g 1 _ _ _ h
theorem RdAt.setBad {w : World} {g : Nat} {s : ByteArray} {k : Int} {bad : Bool} (h : RdAt w g s k bad) (b' : Bool) : RdAt (w.setCell ⟨g, 2, none⟩ (.bool b')) g s k b' := heap_setCell_same w g 2 _ _ _ h
theorem RdAt.ext {w w' : World} {g : Nat} {s : ByteArray} {k : Int} {bad : Bool} (h : RdAt w g s k bad) (he : Ext w w') : RdAt w' g s k bad := he.heap h
theorem RdAt.drewN {w : World} {g : Nat} {s : ByteArray} {k : Int} {bad : Bool} (h : RdAt w g s k bad) (n : Nat) : RdAt (w.drewN n) g s k bad := h

/-- How far bytes are of one sort, from place k on. -/
def runP (p : UInt8 → Bool) (l : List UInt8) (k : Nat) : Nat := k + ((l.drop k).takeWhile p).length

theorem runP_le (p : UInt8 → Bool) (l : List UInt8) (k : Nat) (hk : k ≤ l.length) : k ≤ runP p l k ∧ runP p l k ≤ l.length := by
  unfold runP
  have := (List.takeWhile_sublist p (l := l.drop k)).length_le
  rw [List.length_drop] at this
  omega
theorem runP_stop {p : UInt8 → Bool} {l : List UInt8} {k : Nat} (h : ∀ hk : k < l.length, p l[k] = false) : runP p l k = k := by
  unfold runP
  by_cases hk : k < l.length
  · rw [List.drop_eq_getElem_cons hk, List.takeWhile_cons, h hk]; simp
  · rw [List.drop_of_length_le (by omega)]; simp
theorem runP_go {p : UInt8 → Bool} {l : List UInt8} {k : Nat} (hk : k < l.length) (h : p l[k] = true) : runP p l k = runP p l (k + 1) := by
  unfold runP
  rw [List.drop_eq_getElem_cons hk, List.takeWhile_cons, h]
  simp; omega

def posOf (w : World) (g : Nat) : Nat := match w.cell? ⟨g, 1, none⟩ with | some v => (intOf v).toNat | none => 0

/-- A call of a function value, where only reading is done. -/
theorem quiet_callv {P : Program} {o : Oper} {a : Act} {w : World} {K : Act → Prop} {f : FuncId} (x y : Operand) (ts : Array TypeId) (ho : o.op = .call { callee := .value x, args := #[y], argTypes := ts }) (hx : a.eval x = .func (.func f) #[] #[]) (u : Value) (hy : a.eval y = u) (v : Value)
    (hen : ∀ (args : Array Value) (w : World), (callFunc f args).run P w = .ok (.enter f args) w) (hc : ∀ w, Calls P f #[u] w fun e w' => e = .returned v ∧ w' = w) (hk : K (a.put o.dst v)) : o.quiet P a (fun w' => ∃ n, w' = w.drewN n) K := by
  refine ⟨v, fun w' hw' => ?_, hk⟩
  unfold Oper.quietAt execOp
  simp only [ho, hx, hy, resolve, invoke, Sem.run_bind, Sem.run_pure, Result.andThen_ok, List.map_toArray, List.map_cons, List.map_nil, Deferred.ofValue, Array.append_empty, Array.empty_append, hen, Oper.quietUpon]
  refine ⟨trivial, ?_⟩
  exact (hc w').mono fun e w'' ⟨h1, h2⟩ => ⟨h1, by rw [h2]; exact hw'⟩

theorem toList_get (s : ByteArray) (j : Nat) (h : j < s.size) : s.toList[j]'(by rw [size_toList]; exact h) = s[j] := by
  have : s.toList = s.data.toList := bytes_toList s
  simp only [this]
  rfl
def spaceB (c : UInt8) : Bool := ((c.toNat : Int) == 32) || ((c.toNat : Int) == 10) || ((c.toNat : Int) == 9) || ((c.toNat : Int) == 13)
def digitB (c : UInt8) : Bool := decide (48 ≤ (c.toNat : Int)) && decide ((c.toNat : Int) ≤ 57)
set_option maxHeartbeats 400000 in
theorem isDigit_any (c : UInt8) (w : World) : Calls Tryz.prog 168 #[.int .u8 c.toNat] w fun e w' => e = .returned (.bool (digitB c)) ∧ w' = w := by
  unfold digitB
  go_enter Tryz.func168, Tryz.ntmps168
  go_wp2
  all_goals
    go_ret
    rename_i h
    exact ⟨by simp [h]; try omega, rfl⟩
set_option maxHeartbeats 400000 in
theorem isSpace_any (c : UInt8) (w : World) : Calls Tryz.prog 96 #[.int .u8 c.toNat] w fun e w' => e = .returned (.bool (spaceB c)) ∧ w' = w := by
  unfold spaceB
  generalize (c.toNat : Int) = z
  cases h1 : (z == 32)
  · cases h2 : (z == 10)
    · cases h3 : (z == 9)
      · go_enter Tryz.func96, Tryz.ntmps96
        go_wp2
        go_ret
        exact ⟨rfl, rfl⟩
      · go_enter Tryz.func96, Tryz.ntmps96
        go_wp2
        go_ret
        exact ⟨rfl, rfl⟩
    · go_enter Tryz.func96, Tryz.ntmps96
      go_wp2
      go_ret
      exact ⟨rfl, rfl⟩
  · go_enter Tryz.func96, Tryz.ntmps96
    go_wp2
    go_ret
    exact ⟨rfl, rfl⟩

theorem posOf_set {w : World} {g : Nat} {s : ByteArray} {k : Int} {bad : Bool} (h : RdAt w g s k bad) (j : Nat) : posOf (w.setCell ⟨g, 1, none⟩ (.int .i64 (j + 1 : Int))) g = j + 1 := by
  obtain ⟨_, c1, _, _⟩ := (h.setAt (j + 1 : Int)).cells
  simp [posOf, c1, intOf]
theorem enter96 (args : Array Value) (w : World) : (callFunc 96 args).run Tryz.prog w = .ok (.enter 96 args) w := by kernel_rfl
theorem enter37 (args : Array Value) (w : World) : (callFunc 37 args).run Tryz.prog w = .ok (.enter 37 args) w := by kernel_rfl
theorem enter168 (args : Array Value) (w : World) : (callFunc 168 args).run Tryz.prog w = .ok (.enter 168 args) w := by kernel_rfl

set_option maxHeartbeats 800000 in
theorem run_space (g : Nat) (s : ByteArray) (k : Nat) (bad : Bool) (w : World) (hr : RdAt w g s k bad) (hk : k ≤ s.size) (hs : s.size ≤ 1048576) :
    Calls Tryz.prog 95 #[.pointer (some ⟨g, 0, none⟩), .func (.func 96) #[] #[]] w fun e w' => e = .returned (.string (s.extract k (runP spaceB s.toList k))) ∧ RdAt w' g s (runP spaceB s.toList k) bad ∧ w.grownBy w' (some g) := by
  obtain ⟨c0, c1, c2, hfr⟩ := hr.cells
  go_enter Tryz.func95, Tryz.ntmps95
  go_wp2
  go_loopw [] (fun wr => ∃ j : Nat, k ≤ j ∧ j ≤ s.size ∧ RdAt wr g s j bad ∧ runP spaceB s.toList j = runP spaceB s.toList k ∧ w.grownBy wr (some g)) (fun wr => s.size - posOf wr g)
  case atStart => exact ⟨k, by omega, hk, hr, rfl, World.grownBy.refl _ _⟩
  case round =>
    clear c0 c1 c2 hfr hr
    obtain ⟨j, hkj, hj, hr, hrun, hg⟩ := hrel
    obtain ⟨c0, c1, c2, hfr⟩ := hr.cells
    have Hrun := hide hrun
    have Hpos : Hid (posOf wr g = j) := by simp [Hid, posOf, c1, intOf]
    clear hrun
    by_cases hlt : j < s.size
    · have hd : decide (j < s.size) = true := by simpa using hlt
      have hjl : j < s.toList.length := by rw [size_toList]; exact hlt
      have Hjj := hide (toList_get s j hlt)
      cases hp : spaceB s[j]
      · have Hp := hide hp
        clear hp
        have Hend : Hid (runP spaceB s.toList k = j) := by
          unfold Hid
          rw [← unhide Hrun]; exact runP_stop fun hk => by rw [unhide Hjj]; exact unhide Hp
        go_wp2
        refine wp_region_quiet_lit (by kernel_rfl) (by kernel_rfl) ?_
        repeat (go_big_quiet_step (fail))
        go_big_quiet_want
        refine quiet_callv _ _ _ rfl rfl _ rfl (.bool false) enter96 (fun w => by have := isSpace_any s[j] w; rw [unhide Hp] at this; exact this) ?_
        simp only [Act.put, List.setIfInBounds_toArray, List.set_cons_succ, List.set_cons_zero]
        go_big_quiet_on
        repeat (go_big_quiet_step (fail))
        refine wpQuiet_nil ?_
        rintro _ ⟨nq, rfl⟩
        go_wp2
        go_quiet (fail)
        go_wp2
        go_ret
        exact ⟨by rw [unhide Hend]; rfl, by rw [unhide Hend]; exact (hr.drewN _).drewN _, grown_trans (grown_trans hg (grown_drewN _ _ _)) (grown_drewN _ _ _)⟩
      · have Hp := hide hp
        clear hp
        have Hnx : Hid (runP spaceB s.toList (j + 1) = runP spaceB s.toList k) := by
          unfold Hid
          rw [← unhide Hrun]; exact (runP_go hjl (by rw [unhide Hjj]; exact unhide Hp)).symm
        go_wp2
        refine wp_region_quiet_lit (by kernel_rfl) (by kernel_rfl) ?_
        repeat (go_big_quiet_step (fail))
        go_big_quiet_want
        refine quiet_callv _ _ _ rfl rfl _ rfl (.bool true) enter96 (fun w => by have := isSpace_any s[j] w; rw [unhide Hp] at this; exact this) ?_
        simp only [Act.put, List.setIfInBounds_toArray, List.set_cons_succ, List.set_cons_zero]
        go_big_quiet_on
        repeat (go_big_quiet_step (fail))
        refine wpQuiet_nil ?_
        rintro _ ⟨nq, rfl⟩
        go_wp2
        exact ⟨⟨j + 1, by omega, by omega, (hr.drewN _).setAt _, unhide Hnx, grown_trans (grown_trans hg (grown_drewN _ _ _)) (grown_setCell _ _ _ _)⟩, by rw [unhide Hpos, posOf_set (hr.drewN _)]; omega⟩
    · have hd : decide (j < s.size) = false := by simpa using hlt
      have Hend : Hid (runP spaceB s.toList k = j) := by
        unfold Hid
        rw [← unhide Hrun]; exact runP_stop fun hk => absurd hk (by rw [size_toList]; exact hlt)
      go_wp2
      go_quiet (fail)
      go_wp2
      go_quiet (fail)
      go_wp2
      go_ret
      exact ⟨by rw [unhide Hend]; rfl, by rw [unhide Hend]; exact (hr.drewN _).drewN _, grown_trans (grown_trans hg (grown_drewN _ _ _)) (grown_drewN _ _ _)⟩

set_option maxHeartbeats 800000 in
theorem run_letter (g : Nat) (s : ByteArray) (k : Nat) (bad : Bool) (w : World) (hr : RdAt w g s k bad) (hk : k ≤ s.size) (hs : s.size ≤ 1048576) :
    Calls Tryz.prog 95 #[.pointer (some ⟨g, 0, none⟩), .func (.func 37) #[] #[]] w fun e w' => e = .returned (.string (s.extract k (runP letterB s.toList k))) ∧ RdAt w' g s (runP letterB s.toList k) bad ∧ w.grownBy w' (some g) := by
  obtain ⟨c0, c1, c2, hfr⟩ := hr.cells
  go_enter Tryz.func95, Tryz.ntmps95
  go_wp2
  go_loopw [] (fun wr => ∃ j : Nat, k ≤ j ∧ j ≤ s.size ∧ RdAt wr g s j bad ∧ runP letterB s.toList j = runP letterB s.toList k ∧ w.grownBy wr (some g)) (fun wr => s.size - posOf wr g)
  case atStart => exact ⟨k, by omega, hk, hr, rfl, World.grownBy.refl _ _⟩
  case round =>
    clear c0 c1 c2 hfr hr
    obtain ⟨j, hkj, hj, hr, hrun, hg⟩ := hrel
    obtain ⟨c0, c1, c2, hfr⟩ := hr.cells
    have Hrun := hide hrun
    have Hpos : Hid (posOf wr g = j) := by simp [Hid, posOf, c1, intOf]
    clear hrun
    by_cases hlt : j < s.size
    · have hd : decide (j < s.size) = true := by simpa using hlt
      have hjl : j < s.toList.length := by rw [size_toList]; exact hlt
      have Hjj := hide (toList_get s j hlt)
      cases hp : letterB s[j]
      · have Hp := hide hp
        clear hp
        have Hend : Hid (runP letterB s.toList k = j) := by
          unfold Hid
          rw [← unhide Hrun]; exact runP_stop fun hk => by rw [unhide Hjj]; exact unhide Hp
        go_wp2
        refine wp_region_quiet_lit (by kernel_rfl) (by kernel_rfl) ?_
        repeat (go_big_quiet_step (fail))
        go_big_quiet_want
        refine quiet_callv _ _ _ rfl rfl _ rfl (.bool false) enter37 (fun w => by have := isLetter_any s[j] w; rw [unhide Hp] at this; exact this) ?_
        simp only [Act.put, List.setIfInBounds_toArray, List.set_cons_succ, List.set_cons_zero]
        go_big_quiet_on
        repeat (go_big_quiet_step (fail))
        refine wpQuiet_nil ?_
        rintro _ ⟨nq, rfl⟩
        go_wp2
        go_quiet (fail)
        go_wp2
        go_ret
        exact ⟨by rw [unhide Hend]; rfl, by rw [unhide Hend]; exact (hr.drewN _).drewN _, grown_trans (grown_trans hg (grown_drewN _ _ _)) (grown_drewN _ _ _)⟩
      · have Hp := hide hp
        clear hp
        have Hnx : Hid (runP letterB s.toList (j + 1) = runP letterB s.toList k) := by
          unfold Hid
          rw [← unhide Hrun]; exact (runP_go hjl (by rw [unhide Hjj]; exact unhide Hp)).symm
        go_wp2
        refine wp_region_quiet_lit (by kernel_rfl) (by kernel_rfl) ?_
        repeat (go_big_quiet_step (fail))
        go_big_quiet_want
        refine quiet_callv _ _ _ rfl rfl _ rfl (.bool true) enter37 (fun w => by have := isLetter_any s[j] w; rw [unhide Hp] at this; exact this) ?_
        simp only [Act.put, List.setIfInBounds_toArray, List.set_cons_succ, List.set_cons_zero]
        go_big_quiet_on
        repeat (go_big_quiet_step (fail))
        refine wpQuiet_nil ?_
        rintro _ ⟨nq, rfl⟩
        go_wp2
        exact ⟨⟨j + 1, by omega, by omega, (hr.drewN _).setAt _, unhide Hnx, grown_trans (grown_trans hg (grown_drewN _ _ _)) (grown_setCell _ _ _ _)⟩, by rw [unhide Hpos, posOf_set (hr.drewN _)]; omega⟩
    · have hd : decide (j < s.size) = false := by simpa using hlt
      have Hend : Hid (runP letterB s.toList k = j) := by
        unfold Hid
        rw [← unhide Hrun]; exact runP_stop fun hk => absurd hk (by rw [size_toList]; exact hlt)
      go_wp2
      go_quiet (fail)
      go_wp2
      go_quiet (fail)
      go_wp2
      go_ret
      exact ⟨by rw [unhide Hend]; rfl, by rw [unhide Hend]; exact (hr.drewN _).drewN _, grown_trans (grown_trans hg (grown_drewN _ _ _)) (grown_drewN _ _ _)⟩

set_option maxHeartbeats 800000 in
theorem run_digit (g : Nat) (s : ByteArray) (k : Nat) (bad : Bool) (w : World) (hr : RdAt w g s k bad) (hk : k ≤ s.size) (hs : s.size ≤ 1048576) :
    Calls Tryz.prog 95 #[.pointer (some ⟨g, 0, none⟩), .func (.func 168) #[] #[]] w fun e w' => e = .returned (.string (s.extract k (runP digitB s.toList k))) ∧ RdAt w' g s (runP digitB s.toList k) bad ∧ w.grownBy w' (some g) := by
  obtain ⟨c0, c1, c2, hfr⟩ := hr.cells
  go_enter Tryz.func95, Tryz.ntmps95
  go_wp2
  go_loopw [] (fun wr => ∃ j : Nat, k ≤ j ∧ j ≤ s.size ∧ RdAt wr g s j bad ∧ runP digitB s.toList j = runP digitB s.toList k ∧ w.grownBy wr (some g)) (fun wr => s.size - posOf wr g)
  case atStart => exact ⟨k, by omega, hk, hr, rfl, World.grownBy.refl _ _⟩
  case round =>
    clear c0 c1 c2 hfr hr
    obtain ⟨j, hkj, hj, hr, hrun, hg⟩ := hrel
    obtain ⟨c0, c1, c2, hfr⟩ := hr.cells
    have Hrun := hide hrun
    have Hpos : Hid (posOf wr g = j) := by simp [Hid, posOf, c1, intOf]
    clear hrun
    by_cases hlt : j < s.size
    · have hd : decide (j < s.size) = true := by simpa using hlt
      have hjl : j < s.toList.length := by rw [size_toList]; exact hlt
      have Hjj := hide (toList_get s j hlt)
      cases hp : digitB s[j]
      · have Hp := hide hp
        clear hp
        have Hend : Hid (runP digitB s.toList k = j) := by
          unfold Hid
          rw [← unhide Hrun]; exact runP_stop fun hk => by rw [unhide Hjj]; exact unhide Hp
        go_wp2
        refine wp_region_quiet_lit (by kernel_rfl) (by kernel_rfl) ?_
        repeat (go_big_quiet_step (fail))
        go_big_quiet_want
        refine quiet_callv _ _ _ rfl rfl _ rfl (.bool false) enter168 (fun w => by have := isDigit_any s[j] w; rw [unhide Hp] at this; exact this) ?_
        simp only [Act.put, List.setIfInBounds_toArray, List.set_cons_succ, List.set_cons_zero]
        go_big_quiet_on
        repeat (go_big_quiet_step (fail))
        refine wpQuiet_nil ?_
        rintro _ ⟨nq, rfl⟩
        go_wp2
        go_quiet (fail)
        go_wp2
        go_ret
        exact ⟨by rw [unhide Hend]; rfl, by rw [unhide Hend]; exact (hr.drewN _).drewN _, grown_trans (grown_trans hg (grown_drewN _ _ _)) (grown_drewN _ _ _)⟩
      · have Hp := hide hp
        clear hp
        have Hnx : Hid (runP digitB s.toList (j + 1) = runP digitB s.toList k) := by
          unfold Hid
          rw [← unhide Hrun]; exact (runP_go hjl (by rw [unhide Hjj]; exact unhide Hp)).symm
        go_wp2
        refine wp_region_quiet_lit (by kernel_rfl) (by kernel_rfl) ?_
        repeat (go_big_quiet_step (fail))
        go_big_quiet_want
        refine quiet_callv _ _ _ rfl rfl _ rfl (.bool true) enter168 (fun w => by have := isDigit_any s[j] w; rw [unhide Hp] at this; exact this) ?_
        simp only [Act.put, List.setIfInBounds_toArray, List.set_cons_succ, List.set_cons_zero]
        go_big_quiet_on
        repeat (go_big_quiet_step (fail))
        refine wpQuiet_nil ?_
        rintro _ ⟨nq, rfl⟩
        go_wp2
        exact ⟨⟨j + 1, by omega, by omega, (hr.drewN _).setAt _, unhide Hnx, grown_trans (grown_trans hg (grown_drewN _ _ _)) (grown_setCell _ _ _ _)⟩, by rw [unhide Hpos, posOf_set (hr.drewN _)]; omega⟩
    · have hd : decide (j < s.size) = false := by simpa using hlt
      have Hend : Hid (runP digitB s.toList k = j) := by
        unfold Hid
        rw [← unhide Hrun]; exact runP_stop fun hk => absurd hk (by rw [size_toList]; exact hlt)
      go_wp2
      go_quiet (fail)
      go_wp2
      go_quiet (fail)
      go_wp2
      go_ret
      exact ⟨by rw [unhide Hend]; rfl, by rw [unhide Hend]; exact (hr.drewN _).drewN _, grown_trans (grown_trans hg (grown_drewN _ _ _)) (grown_drewN _ _ _)⟩

end Go.Proofs.YtmghhakebhgckaaGreatDoor

namespace Go.Proofs.YtmghhakebhgckaaGreatDoor
set_option linter.unusedSimpArgs false
set_option linter.unusedVariables false
open Go.RowKit

/-- The first n operations can come up in the order of the text alone. -/
def forcedFrom (ops : Array Oper) : Nat → Nat → Array Bool → Bool
  | 0, _, _ => true
  | n + 1, k, listed => (Region.ready .any ops listed == [k]) && forcedFrom ops n (k + 1) (listed.setIfInBounds k true)

/-- The operations from k on, n of them, are listed. -/
def listTo : Nat → Nat → Array Bool → Array Bool
  | 0, _, listed => listed
  | n + 1, k, listed => listTo n (k + 1) (listed.setIfInBounds k true)

/-- What an operation leaves by: 'normal' is no way out of one operation. -/
theorem wp_then {P : Program} {o : Oper} {a : Act} {w : World} {N N' : Act → World → Prop} {K : Act → World → Prop} {Q : Exit → Act → World → Prop} (hN : ∀ a w, N a w → N' a w) (h : o.wp P a w N (Exit.then K Q)) : o.wp P a w N' Q := by
  unfold Oper.wp at *
  generalize (execOp a.eval o).run P w = r at *
  cases r with
  | ok n w' =>
    cases n <;> simp only [Oper.upon] at h ⊢
    case value => exact hN _ _ h
    case skip => exact hN _ _ h
    case defer => exact hN _ _ h
    case enter =>
      refine h.mono fun e w'' he => ?_
      cases e with
      | returned v => exact hN _ _ he
      | panicked c => exact he
      | outgrown => exact he
    case row => exact h.mono fun v w'' hv => hN _ _ hv
  | halt x w' => cases x <;> simp only [Oper.upon] at h ⊢; exact h

theorem wpAny_forced {P : Program} {ops : Array Oper} {Q : Exit → Act → World → Prop} (K : Act → World → Prop) (fuel : Nat) : ∀ (l : List Oper) (k : Nat) (listed : Array Bool) (a : Act) (w : World), (∀ j, j < l.length → l[j]? = ops[k + j]?) →
    forcedFrom ops l.length k listed = true →
    (∀ a' w', K a' w' → wpAny P .any ops Q fuel (listTo l.length k listed) a' w') →
    wpList P ops (Exit.then K Q) l a w → wpAny P .any ops Q (l.length + fuel) listed a w
  | [], k, listed, a, w, _, _, hK, h => by
    have := hK a w h
    simpa [listTo] using this
  | o :: l, k, listed, a, w, hl, hf, hK, h => by
    have h0 : ops[k]? = some o := by simpa using (hl 0 (by simp)).symm
    simp only [List.length_cons, forcedFrom, Bool.and_eq_true, beq_iff_eq] at hf
    obtain ⟨hr, hf'⟩ := hf
    rw [List.length_cons, show l.length + 1 + fuel = (l.length + fuel) + 1 by omega]
    refine And.intro (fun e => by rw [hr] at e; cases e) (fun i hi => ?_)
    rw [hr] at hi
    obtain rfl : i = k := by simpa using hi
    have ih : ∀ a' w', wpList P ops (Exit.then K Q) l a' w' → wpAny P .any ops Q (l.length + fuel) (listed.setIfInBounds i true) a' w' := fun a' w' h' =>
      wpAny_forced K fuel l (i + 1) _ a' w' (fun j hj => by have := hl (j + 1) (by simp; omega); simpa [Nat.add_assoc, Nat.add_comm 1 j] using this) hf'
        (fun a'' w'' hk => hK a'' w'' hk) h'
    unfold wpOp
    simp only [h0]
    unfold wpList at h
    split
    · rename_i hw
      rw [if_pos hw] at h
      rcases h with h | ⟨h1, h2⟩
      · refine .inl (wp_then (K := K) ih ?_)
        exact h
      · exact .inr ⟨h1, h2⟩
    · rename_i hw
      rw [if_neg hw] at h
      exact ih _ _ h

/-- A REGION THAT DRAWS ITS ORDER, whose first operations can come up in the order of the text alone (they may do what they like), and whose others only read: one walk, in the order of the text. -/
theorem wp_region_prefix {P : Program} {id : Nat} {Q : Exit → Act → World → Prop} {a : Act} {w : World} (l1 l2 : List Oper) {l : List Oper} (hl : l = l1 ++ l2) (hm : P.follows .mixedOrders = true)
    (hs : Region.noSelect l.toArray = true) (hf : forcedFrom l.toArray l1.length 0 (Array.replicate l.toArray.size false) = true)
    (hB : Region.lexFrom .any l.toArray l2.length l1.length (listTo l1.length 0 (Array.replicate l.toArray.size false)) = true)
    (h : ∀ K : Act → World → Prop, Hid (∀ a' w', wpQuiet P l.toArray (fun w'' => ∃ n, w'' = w'.drewN n) (fun a'' => ∀ w'', (∃ n, w'' = w'.drewN n) → Q .normal a'' w'') l2 a' → K a' w') → wpList P l.toArray (Exit.then K Q) l1 a w.drew) : (Code.region id l.toArray true).wp P Q a w := by
  replace h := h (fun a' w' => wpQuiet P l.toArray (fun w'' => ∃ n, w'' = w'.drewN n) (fun a'' => ∀ w'', (∃ n, w'' = w'.drewN n) → Q .normal a'' w'') l2 a') (fun _ _ h => h)
  refine wp_region_any hm ?_
  have hz : l.toArray.size = l1.length + l2.length := by rw [hl]; simp
  rw [hz]
  refine wpAny_forced _ l2.length l1 0 _ a _ (fun j hj => ?_) (by rw [← hz]; exact hf) (fun a' w' hk => ?_) h
  · rw [hl]; simp [List.getElem?_append_left hj]
  · refine wpAny_of_quiet (C := fun w'' => ∃ n, w'' = w'.drewN n) (Q := fun a'' => ∀ w'', (∃ n, w'' = w'.drewN n) → Q .normal a'' w'') (fun _ w'' hw'' h => h w'' hw'') _ _ _ _ ⟨0, rfl⟩ ?_
    exact wpAnyQ_lex hs l2 l1.length _ a' (fun j => by rw [hl]; simp [List.getElem?_append_right]) (by rw [← hz]; exact hB) hk
end Go.Proofs.YtmghhakebhgckaaGreatDoor

namespace Go.Proofs.YtmghhakebhgckaaGreatDoor
set_option linter.unusedSimpArgs false
set_option linter.unusedVariables false
open Go.RowKit

def skipP (l : List UInt8) (k : Nat) : Nat := runP spaceB l k
def moreV (l : List UInt8) (k : Nat) (bad : Bool) : Bool := !bad && decide (skipP l k < l.length)
def seesV (l : List UInt8) (k : Nat) (bad : Bool) (c : UInt8) : Bool := moreV l k bad && (l[skipP l k]? == some c)
def seesWordV (l : List UInt8) (k : Nat) (bad : Bool) : Bool := moreV l k bad && (match l[skipP l k]? with | some c => letterB c | none => false)
theorem skipP_le {l : List UInt8} {k : Nat} (hk : k ≤ l.length) : k ≤ skipP l k ∧ skipP l k ≤ l.length := runP_le _ _ _ hk

set_option maxHeartbeats 800000 in
theorem more_any (g : Nat) (s : ByteArray) (k : Nat) (bad : Bool) (w : World) (hr : RdAt w g s k bad) (hk : k ≤ s.size) (hs : s.size ≤ 1048576) :
    Calls Tryz.prog 67 #[.pointer (some ⟨g, 0, none⟩)] w fun e w' => e = .returned (.bool (moreV s.toList k bad)) ∧ RdAt w' g s (skipP s.toList k) bad ∧ w.grownBy w' (some g) := by
  have hle := skipP_le (l := s.toList) (k := k) (by rw [size_toList]; exact hk)
  rw [size_toList] at hle
  obtain ⟨hle1, hle2⟩ := hle
  have E : Hid (moreV s.toList k bad = (!bad && decide (skipP s.toList k < s.size))) := by unfold Hid moreV; rw [size_toList]
  obtain ⟨j, hj⟩ : ∃ j, skipP s.toList k = j := ⟨_, rfl⟩
  rw [hj] at E hle1 hle2 ⊢
  have Hj := hide hj
  clear hj
  go_enter Tryz.func67, Tryz.ntmps67
  go_wp2_with fail
  refine (run_space g s k bad w hr hk hs).mono ?_
  rintro e w1 ⟨rfl, hr1, hg1⟩
  rw [show runP spaceB s.toList k = j from unhide Hj] at hr1
  obtain ⟨c0, c1, c2, hfr⟩ := hr1.cells
  have Hr := hide hr1
  have Hg := hide hg1
  clear hr1 hg1 hr
  cases bad
  · by_cases hlt : j < s.size
    · have hd : decide (j < s.size) = true := by simpa using hlt
      go_wp2
      go_quiet (fail)
      go_wp2
      go_ret
      exact ⟨ret_bool (E.out.trans (by simp [hlt])).symm, (unhide Hr).drewN _, grown_trans (unhide Hg) (grown_drewN _ _ _)⟩
    · have hd : decide (j < s.size) = false := by simpa using hlt
      go_wp2
      go_quiet (fail)
      go_wp2
      go_ret
      exact ⟨ret_bool (E.out.trans (by simp [hlt])).symm, (unhide Hr).drewN _, grown_trans (unhide Hg) (grown_drewN _ _ _)⟩
  · go_wp2
    go_quiet (fail)
    go_wp2
    go_ret
    exact ⟨ret_bool (E.out.trans (by simp)).symm, (unhide Hr).drewN _, grown_trans (unhide Hg) (grown_drewN _ _ _)⟩

theorem seesV_false {l : List UInt8} {k : Nat} {bad : Bool} {c : UInt8} (h : moreV l k bad = false) : seesV l k bad c = false := by unfold seesV; rw [h]; rfl
theorem seesV_more {l : List UInt8} {k : Nat} {bad : Bool} {c : UInt8} (h : moreV l k bad = true) (hk : skipP l k < l.length) : seesV l k bad c = ((l[skipP l k].toNat : Int) == c.toNat) := by
  unfold seesV
  rw [h, List.getElem?_eq_getElem hk, Bool.eq_iff_iff]
  simp [← UInt8.toNat_inj]
  omega
theorem moreV_lt {l : List UInt8} {k : Nat} {bad : Bool} (h : moreV l k bad = true) : skipP l k < l.length := by
  unfold moreV at h
  simp at h
  exact h.2

set_option maxHeartbeats 800000 in
theorem sees_any (g : Nat) (s : ByteArray) (k : Nat) (bad : Bool) (c : UInt8) (w : World) (hr : RdAt w g s k bad) (hk : k ≤ s.size) (hs : s.size ≤ 1048576) :
    Calls Tryz.prog 99 #[.pointer (some ⟨g, 0, none⟩), .int .u8 c.toNat] w fun e w' => e = .returned (.bool (seesV s.toList k bad c)) ∧ RdAt w' g s (skipP s.toList k) bad ∧ w.grownBy w' (some g) := by
  cases hm : moreV s.toList k bad
  · have E := hide (seesV_false (c := c) hm)
    have Hm := hide hm
    clear hm
    go_enter Tryz.func99, Tryz.ntmps99
    go_wp2_with fail
    refine wp_region_prefix [_, _, _] _ rfl (by kernel_rfl) (by kernel_rfl) (by kernel_rfl) (by kernel_rfl) fun K hK => ?_
    go_wp2_with fail
    refine (more_any g s k bad w.drew hr hk hs).mono ?_
    rintro e w1 ⟨rfl, hr1, hg1⟩
    rw [unhide Hm]
    go_wp2
    refine hK.out _ _ ?_
    repeat (go_big_quiet_step (fail))
    refine wpQuiet_nil ?_
    rintro _ ⟨nq, rfl⟩
    clear hK K
    go_wp2
    go_ret
    exact ⟨ret_bool (unhide E).symm, hr1.drewN _, grown_trans (grown_drewN w 1 _) (grown_trans hg1 (grown_drewN _ _ _))⟩
  · have hlt := moreV_lt hm
    have E := hide (seesV_more (c := c) hm hlt)
    have Hm := hide hm
    clear hm
    have hlt' : skipP s.toList k < s.size := by rw [size_toList] at hlt; exact hlt
    have Hjj := hide (toList_get s _ hlt')
    go_enter Tryz.func99, Tryz.ntmps99
    go_wp2_with fail
    refine wp_region_prefix [_, _, _] _ rfl (by kernel_rfl) (by kernel_rfl) (by kernel_rfl) (by kernel_rfl) fun K hK => ?_
    go_wp2_with fail
    refine (more_any g s k bad w.drew hr hk hs).mono ?_
    rintro e w1 ⟨rfl, hr1, hg1⟩
    rw [unhide Hm]
    obtain ⟨c0, c1, c2, hfr⟩ := hr1.cells
    go_wp2
    refine hK.out _ _ ?_
    repeat (go_big_quiet_step (fail))
    refine wpQuiet_nil ?_
    rintro _ ⟨nq, rfl⟩
    clear hK K
    go_wp2
    go_ret
    exact ⟨ret_bool ((unhide E).trans (by rw [unhide Hjj])).symm, hr1.drewN _, grown_trans (grown_drewN w 1 _) (grown_trans hg1 (grown_drewN _ _ _))⟩

theorem seesWordV_false {l : List UInt8} {k : Nat} {bad : Bool} (h : moreV l k bad = false) : seesWordV l k bad = false := by unfold seesWordV; rw [h]; rfl
theorem seesWordV_more {l : List UInt8} {k : Nat} {bad : Bool} (h : moreV l k bad = true) (hk : skipP l k < l.length) : seesWordV l k bad = letterB l[skipP l k] := by
  unfold seesWordV
  rw [h, List.getElem?_eq_getElem hk]; rfl

set_option maxHeartbeats 800000 in
theorem seesWord_any (g : Nat) (s : ByteArray) (k : Nat) (bad : Bool) (w : World) (hr : RdAt w g s k bad) (hk : k ≤ s.size) (hs : s.size ≤ 1048576) :
    Calls Tryz.prog 120 #[.pointer (some ⟨g, 0, none⟩)] w fun e w' => e = .returned (.bool (seesWordV s.toList k bad)) ∧ RdAt w' g s (skipP s.toList k) bad ∧ w.grownBy w' (some g) := by
  cases hm : moreV s.toList k bad
  · have E := hide (seesWordV_false hm)
    have Hm := hide hm
    clear hm
    go_enter Tryz.func120, Tryz.ntmps120
    go_wp2_with fail
    refine wp_region_prefix [_, _, _] _ rfl (by kernel_rfl) (by kernel_rfl) (by kernel_rfl) (by kernel_rfl) fun K hK => ?_
    go_wp2_with fail
    refine (more_any g s k bad w.drew hr hk hs).mono ?_
    rintro e w1 ⟨rfl, hr1, hg1⟩
    rw [unhide Hm]
    go_wp2
    refine hK.out _ _ ?_
    repeat (go_big_quiet_step (fail))
    refine wpQuiet_nil ?_
    rintro _ ⟨nq, rfl⟩
    clear hK K
    go_wp2
    go_ret
    exact ⟨ret_bool (unhide E).symm, hr1.drewN _, grown_trans (grown_drewN w 1 _) (grown_trans hg1 (grown_drewN _ _ _))⟩
  · have hlt := moreV_lt hm
    have E := hide (seesWordV_more hm hlt)
    have Hm := hide hm
    clear hm
    have hlt' : skipP s.toList k < s.size := by rw [size_toList] at hlt; exact hlt
    have Hjj := hide (toList_get s _ hlt')
    go_enter Tryz.func120, Tryz.ntmps120
    go_wp2_with fail
    refine wp_region_prefix [_, _, _] _ rfl (by kernel_rfl) (by kernel_rfl) (by kernel_rfl) (by kernel_rfl) fun K hK => ?_
    go_wp2_with fail
    refine (more_any g s k bad w.drew hr hk hs).mono ?_
    rintro e w1 ⟨rfl, hr1, hg1⟩
    rw [unhide Hm]
    obtain ⟨c0, c1, c2, hfr⟩ := hr1.cells
    go_wp2
    refine hK.out _ _ ?_
    repeat (go_big_quiet_step ((go_at_call 37; exact Calls.quiet_of_same (isLetter_any _ _))))
    refine wpQuiet_nil ?_
    rintro _ ⟨nq, rfl⟩
    clear hK K
    go_wp2
    go_ret
    exact ⟨ret_bool ((unhide E).trans (by rw [unhide Hjj])).symm, hr1.drewN _, grown_trans (grown_drewN w 1 _) (grown_trans hg1 (grown_drewN _ _ _))⟩

def signAt (l : List UInt8) (k : Nat) (bad : Bool) (c : UInt8) : Nat := if seesV l k bad c then skipP l k + 1 else skipP l k
def signBad (l : List UInt8) (k : Nat) (bad : Bool) (c : UInt8) : Bool := if seesV l k bad c then bad else true

set_option maxHeartbeats 800000 in
theorem sign_any (g : Nat) (s : ByteArray) (k : Nat) (bad : Bool) (c : UInt8) (w : World) (hr : RdAt w g s k bad) (hk : k ≤ s.size) (hs : s.size ≤ 1048576) :
    Calls Tryz.prog 98 #[.pointer (some ⟨g, 0, none⟩), .int .u8 c.toNat] w fun e w' => e = .returned (.tuple #[]) ∧ RdAt w' g s (signAt s.toList k bad c) (signBad s.toList k bad c) ∧ w.grownBy w' (some g) := by
  have hle := (skipP_le (l := s.toList) (k := k) (by rw [size_toList]; exact hk)).2
  rw [size_toList] at hle
  cases hm : seesV s.toList k bad c
  · have Hm := hide hm
    clear hm
    go_enter Tryz.func98, Tryz.ntmps98
    go_wp2_with fail
    refine (sees_any g s k bad c w hr hk hs).mono ?_
    rintro e w1 ⟨rfl, hr1, hg1⟩
    rw [unhide Hm]
    obtain ⟨c0, c1, c2, hfr⟩ := hr1.cells
    go_wp2
    exact bodyPost_ret (v := .tuple #[]) (by simp [results, Tryz.results98]) rfl ⟨rfl, by unfold signAt signBad; rw [unhide Hm]; exact hr1.setBad _, grown_trans hg1 (grown_setCell _ _ _ _)⟩
  · have Hm := hide hm
    clear hm
    go_enter Tryz.func98, Tryz.ntmps98
    go_wp2_with fail
    refine (sees_any g s k bad c w hr hk hs).mono ?_
    rintro e w1 ⟨rfl, hr1, hg1⟩
    rw [unhide Hm]
    obtain ⟨c0, c1, c2, hfr⟩ := hr1.cells
    go_wp2
    go_end0
    exact ⟨rfl, by unfold signAt signBad; rw [unhide Hm]; exact hr1.setAt _, grown_trans hg1 (grown_setCell _ _ _ _)⟩

def wordStr (s : ByteArray) (k : Nat) (bad : Bool) : ByteArray := if seesWordV s.toList k bad then s.extract (skipP s.toList k) (runP letterB s.toList (skipP s.toList k)) else ⟨#[]⟩
def wordAt (l : List UInt8) (k : Nat) (bad : Bool) : Nat := if seesWordV l k bad then runP letterB l (skipP l k) else skipP l k
def wordBad (l : List UInt8) (k : Nat) (bad : Bool) : Bool := if seesWordV l k bad then bad else true

set_option maxHeartbeats 800000 in
theorem word_any (g : Nat) (s : ByteArray) (k : Nat) (bad : Bool) (w : World) (hr : RdAt w g s k bad) (hk : k ≤ s.size) (hs : s.size ≤ 1048576) :
    Calls Tryz.prog 97 #[.pointer (some ⟨g, 0, none⟩)] w fun e w' => e = .returned (.string (wordStr s k bad)) ∧ RdAt w' g s (wordAt s.toList k bad) (wordBad s.toList k bad) ∧ w.grownBy w' (some g) := by
  have hle := (skipP_le (l := s.toList) (k := k) (by rw [size_toList]; exact hk)).2
  rw [size_toList] at hle
  cases hm : seesWordV s.toList k bad
  · have Hm := hide hm
    have E1 : Hid (wordStr s k bad = ⟨#[]⟩) := by unfold Hid wordStr; rw [hm]; rfl
    have E2 : Hid (wordAt s.toList k bad = skipP s.toList k) := by unfold Hid wordAt; rw [hm]; rfl
    have E3 : Hid (wordBad s.toList k bad = true) := by unfold Hid wordBad; rw [hm]; rfl
    clear hm
    rw [unhide E1, unhide E2, unhide E3]
    go_enter Tryz.func97, Tryz.ntmps97
    go_wp2_with fail
    refine (seesWord_any g s k bad w hr hk hs).mono ?_
    rintro e w1 ⟨rfl, hr1, hg1⟩
    rw [unhide Hm]
    obtain ⟨c0, c1, c2, hfr⟩ := hr1.cells
    go_wp2
    go_ret
    exact ⟨rfl, hr1.setBad _, grown_trans hg1 (grown_setCell _ _ _ _)⟩
  · have Hm := hide hm
    have E1 : Hid (wordStr s k bad = s.extract (skipP s.toList k) (runP letterB s.toList (skipP s.toList k))) := by unfold Hid wordStr; rw [hm]; rfl
    have E2 : Hid (wordAt s.toList k bad = runP letterB s.toList (skipP s.toList k)) := by unfold Hid wordAt; rw [hm]; rfl
    have E3 : Hid (wordBad s.toList k bad = bad) := by unfold Hid wordBad; rw [hm]; rfl
    clear hm
    rw [unhide E1, unhide E2, unhide E3]
    go_enter Tryz.func97, Tryz.ntmps97
    go_wp2_with fail
    refine (seesWord_any g s k bad w hr hk hs).mono ?_
    rintro e w1 ⟨rfl, hr1, hg1⟩
    rw [unhide Hm]
    go_wp2_with fail
    refine (run_letter g s (skipP s.toList k) bad w1 hr1 hle hs).mono ?_
    rintro e w2 ⟨rfl, hr2, hg2⟩
    go_wp2
    go_ret
    exact ⟨rfl, hr2, grown_trans hg1 hg2⟩
end Go.Proofs.YtmghhakebhgckaaGreatDoor

namespace Go.Proofs.YtmghhakebhgckaaGreatDoor
set_option linter.unusedSimpArgs false
set_option linter.unusedVariables false
open Go.RowKit

def numStep (n : Int) (c : UInt8) : Int := if n ≤ 1099511627776 then n * 10 + ((c.toNat : Int) - 48) else n
def numL (l : List UInt8) : Int := l.foldl numStep 0
theorem numStep_bd {n : Int} {c : UInt8} (hn : 0 ≤ n ∧ n ≤ 10995116277769) (hc : digitB c = true) : 0 ≤ numStep n c ∧ numStep n c ≤ 10995116277769 := by
  unfold digitB at hc
  simp at hc
  unfold numStep
  split <;> omega
theorem numFold_bd : ∀ (l : List UInt8) (n : Int), (0 ≤ n ∧ n ≤ 10995116277769) → l.all digitB = true → 0 ≤ l.foldl numStep n ∧ l.foldl numStep n ≤ 10995116277769
  | [], n, hn, _ => hn
  | c :: l, n, hn, hl => by
    simp only [List.all_cons, Bool.and_eq_true] at hl
    exact numFold_bd l _ (numStep_bd hn hl.1) hl.2
theorem numL_take {l : List UInt8} {k : Nat} (hk : k < l.length) : numL (l.take (k + 1)) = numStep (numL (l.take k)) l[k] := by
  unfold numL
  rw [List.take_succ_eq_append_getElem hk, List.foldl_append]; rfl

set_option maxHeartbeats 800000 in
theorem numberOf_any (s : ByteArray) (w : World) (hd : s.toList.all digitB = true) (hs : s.size ≤ 1048576) :
    Calls Tryz.prog 169 #[.string s] w fun e w' => e = .returned (.int .i64 (numL s.toList)) ∧ w' = w := by
  have Hd := hide hd
  clear hd
  go_enter Tryz.func169, Tryz.ntmps169
  go_wp2
  go_loop [3, 7] (fun n i => ∃ k : Nat, k ≤ s.size ∧ i = .int .i64 k ∧ n = .int .i64 (numL (s.toList.take k))) (fun n i => s.size - (intOf i).toNat)
  case atStart => exact ⟨0, by omega, rfl, rfl⟩
  case round =>
    obtain ⟨k, hk, rfl, rfl⟩ := hrel
    by_cases hlt : k < s.size
    · have hkl : k < s.toList.length := by rw [size_toList]; exact hlt
      have hall := (unhide Hd)
      rw [List.all_eq_true] at hall
      have hdk := hall s.toList[k] (List.getElem_mem hkl)
      have hb := numFold_bd (s.toList.take k) 0 (by omega) (by rw [List.all_eq_true]; exact fun x hx => hall x (List.mem_of_mem_take hx))
      change 0 ≤ numL _ ∧ numL _ ≤ _ at hb
      have Hnx := hide (numL_take hkl)
      rw [toList_get s k hlt] at hdk
      have Hg := hide (toList_get s k hlt)
      obtain ⟨n, hn⟩ : ∃ n, numL (s.toList.take k) = n := ⟨_, rfl⟩
      rw [hn] at hb Hnx ⊢
      obtain ⟨hb1, hb2⟩ := hb
      unfold digitB at hdk
      simp only [Bool.and_eq_true, decide_eq_true_eq] at hdk
      obtain ⟨hd1, hd2⟩ := hdk
      clear hn hall
      by_cases hm : n ≤ 1099511627776
      · go_wp2
        refine ⟨⟨k + 1, by omega, by go_num, ?_⟩, by simp [intOf]; omega⟩
        rw [unhide Hnx, unhide Hg]
        unfold numStep
        rw [if_pos hm]
      · go_wp2
        refine ⟨⟨k + 1, by omega, by go_num, ?_⟩, by simp [intOf]; omega⟩
        rw [unhide Hnx]
        unfold numStep
        rw [if_neg hm]
    · go_wp2
      go_ret
      exact ⟨ret_int (by rw [List.take_of_length_le (by rw [size_toList]; omega)]), rfl⟩

/-- A package-level list of four words, at global g. -/
def NamesAt (w : World) (g : Nat) (L : List (List UInt8)) : Prop := ∃ s : SV, w.cell? ⟨g, 0, none⟩ = some (.slice s.a s.len s.cap) ∧ StrsAt w s (L.map fun l => ByteArray.mk l.toArray)
theorem NamesAt.ext {w w' : World} {g : Nat} {L : List (List UInt8)} (h : NamesAt w g L) (he : Ext w w') : NamesAt w' g L := let ⟨s, h1, h2⟩ := h; ⟨s, he.cell h1, h2.ext he⟩
def rulesL : List (List UInt8) := [[], [111, 110, 101], [109, 97, 121, 98, 101], [109, 97, 110, 121]]
def kindsL : List (List UInt8) := [[], [98, 111, 111, 108], [105, 110, 116], [116, 101, 120, 116]]
/-- The place of a word in a list of words; 0: it is not there. -/
def nameIdx (L : List (List UInt8)) (x : List UInt8) : Int := if x ∈ L then (L.idxOf x : Int) else 0
theorem idxOf_of {L : List (List UInt8)} {x : List UInt8} {k : Nat} (hk : L[k]? = some x) (hn : ∀ j, j < k → L[j]? ≠ some x) : L.idxOf x = k := by
  induction L generalizing k with
  | nil => simp at hk
  | cons y L ih =>
    rw [List.idxOf_cons]
    cases k with
    | zero => simp at hk; subst hk; simp
    | succ k =>
      have h0 := hn 0 (by omega)
      simp at h0
      have := ih (k := k) (by simpa using hk) (fun j hj => by have := hn (j + 1) (by omega); simpa using this)
      rw [this, show (y == x) = false by simp [h0]]; rfl
theorem nameIdx_hit {L : List (List UInt8)} {x v : List UInt8} {k : Nat} (hk : L[k]? = some v) (h : (x == v) = true) (hn : ∀ j, j < k → L[j]? ≠ some x) : nameIdx L x = k := by
  obtain rfl := eq_of_beq h
  unfold nameIdx
  rw [if_pos (List.mem_of_getElem? hk), idxOf_of hk hn]
theorem nameIdx_hit0 {L : List (List UInt8)} {x : List UInt8} (hk : L[0]? = some []) (h : x.isEmpty = true) : nameIdx L x = 0 := by
  have : x = [] := by simpa using h
  subst this
  exact nameIdx_hit (k := 0) hk (by simp) (fun _ h => by omega)
theorem nameIdx_none {L : List (List UInt8)} {x : List UInt8} (hl : L.length = 4) (hn : ∀ j, j < 4 → L[j]? ≠ some x) : nameIdx L x = 0 := by
  unfold nameIdx
  rw [if_neg]
  intro h
  obtain ⟨j, hj, e⟩ := List.getElem_of_mem h
  exact hn j (by omega) (by rw [List.getElem?_eq_getElem hj, e])
theorem not_name {L : List (List UInt8)} {x v : List UInt8} {k : Nat} (hk : L[k]? = some v) (h : (x == v) = false) : L[k]? ≠ some x := fun e => by rw [hk] at e; cases e; simp at h
theorem not_name0 {L : List (List UInt8)} {x : List UInt8} {k : Nat} (hk : L[k]? = some []) (h : x.isEmpty = false) : L[k]? ≠ some x := fun e => by rw [hk] at e; cases e; simp at h
theorem next_not {L : List (List UInt8)} {x : List UInt8} {k : Nat} (hn : ∀ j, j < k → L[j]? ≠ some x) (h : L[k]? ≠ some x) : ∀ j, j < k + 1 → L[j]? ≠ some x := fun j hj => by
  by_cases e : j = k
  · subst e; exact h
  · exact hn j (by omega)

set_option maxHeartbeats 800000 in
theorem ruleOf_any (x : ByteArray) (w : World) (hw : NamesAt w 1 rulesL) :
    Calls Tryz.prog 170 #[.string x] w fun e w' => e = .returned (.int .i64 (nameIdx rulesL x.toList)) ∧ w' = w := by
  obtain ⟨⟨a, n, cap⟩, hc, hs⟩ := hw
  have hl := hs.1
  simp only at hl
  subst hl
  have hlen : (rulesL.map fun l => ByteArray.mk l.toArray).length = 4 := rfl
  rw [hlen] at hc
  obtain ⟨b, o, rfl, c0⟩ := hs.cell (k := 0) (by decide)
  obtain ⟨b1, o1, e1, c1⟩ := hs.cell (k := 1) (by decide)
  obtain ⟨b2, o2, e2, c2⟩ := hs.cell (k := 2) (by decide)
  obtain ⟨b3, o3, e3, c3⟩ := hs.cell (k := 3) (by decide)
  simp only [Option.some.injEq, Addr.mk.injEq] at e1 e2 e3
  obtain ⟨rfl, rfl, _⟩ := e1
  obtain ⟨rfl, rfl, _⟩ := e2
  obtain ⟨rfl, rfl, _⟩ := e3
  replace c0 : w.cell? ⟨b, o, none⟩ = some (.string ⟨#[]⟩) := c0
  replace c1 : w.cell? ⟨b, o + 1, none⟩ = some (.string ⟨#[111, 110, 101]⟩) := c1
  replace c2 : w.cell? ⟨b, o + 2, none⟩ = some (.string ⟨#[109, 97, 121, 98, 101]⟩) := c2
  replace c3 : w.cell? ⟨b, o + 3, none⟩ = some (.string ⟨#[109, 97, 110, 121]⟩) := c3
  clear hs hlen
  go_enter Tryz.func170, Tryz.ntmps170
  go_wp2
  go_loop [7] (fun i => ∃ k : Nat, k ≤ 4 ∧ i = .int .i64 k ∧ ∀ j, j < k → rulesL[j]? ≠ some x.toList) (fun i => 4 - (intOf i).toNat)
  case atStart => exact ⟨0, by omega, rfl, fun _ h => by omega⟩
  case round =>
    obtain ⟨j, hj, rfl, hnw⟩ := hrel
    have Hnw := hide hnw
    clear hnw
    by_cases hlj : j < 4
    · have h4 : j = 0 ∨ j = 1 ∨ j = 2 ∨ j = 3 := by omega
      obtain ⟨z, hz⟩ : ∃ z : Int, (j : Int) = z := ⟨_, rfl⟩
      rw [hz]
      rcases h4 with rfl | rfl | rfl | rfl
      all_goals
        simp only [Int.cast_ofNat_Int] at hz
        subst hz
        go_wp2
        · go_ret
          refine ⟨ret_int ?_, rfl⟩
          first
            | exact (nameIdx_hit (k := 0) rfl ‹(x.toList == _) = true› (unhide Hnw)).symm
            | exact (nameIdx_hit (k := 1) rfl ‹(x.toList == _) = true› (unhide Hnw)).symm
            | exact (nameIdx_hit (k := 2) rfl ‹(x.toList == _) = true› (unhide Hnw)).symm
            | exact (nameIdx_hit (k := 3) rfl ‹(x.toList == _) = true› (unhide Hnw)).symm
            | exact (nameIdx_hit0 rfl ‹x.toList.isEmpty = true›).symm
        · first
            | exact ⟨⟨_, by omega, by go_num, next_not (unhide Hnw) (not_name rfl ‹(x.toList == _) = false›)⟩, by simp [intOf]⟩
            | exact ⟨⟨_, by omega, by go_num, next_not (unhide Hnw) (not_name0 rfl ‹x.toList.isEmpty = false›)⟩, by simp [intOf]⟩
    · go_wp2
      go_ret
      obtain rfl : j = 4 := by omega
      exact ⟨ret_int (nameIdx_none rfl (unhide Hnw)).symm, rfl⟩

set_option maxHeartbeats 800000 in
theorem kindOfWord_any (x : ByteArray) (w : World) (hw : NamesAt w 2 kindsL) :
    Calls Tryz.prog 171 #[.string x] w fun e w' => e = .returned (.int .i64 (nameIdx kindsL x.toList)) ∧ w' = w := by
  obtain ⟨⟨a, n, cap⟩, hc, hs⟩ := hw
  have hl := hs.1
  simp only at hl
  subst hl
  have hlen : (kindsL.map fun l => ByteArray.mk l.toArray).length = 4 := rfl
  rw [hlen] at hc
  obtain ⟨b, o, rfl, c0⟩ := hs.cell (k := 0) (by decide)
  obtain ⟨b1, o1, e1, c1⟩ := hs.cell (k := 1) (by decide)
  obtain ⟨b2, o2, e2, c2⟩ := hs.cell (k := 2) (by decide)
  obtain ⟨b3, o3, e3, c3⟩ := hs.cell (k := 3) (by decide)
  simp only [Option.some.injEq, Addr.mk.injEq] at e1 e2 e3
  obtain ⟨rfl, rfl, _⟩ := e1
  obtain ⟨rfl, rfl, _⟩ := e2
  obtain ⟨rfl, rfl, _⟩ := e3
  replace c0 : w.cell? ⟨b, o, none⟩ = some (.string ⟨#[]⟩) := c0
  replace c1 : w.cell? ⟨b, o + 1, none⟩ = some (.string ⟨#[98, 111, 111, 108]⟩) := c1
  replace c2 : w.cell? ⟨b, o + 2, none⟩ = some (.string ⟨#[105, 110, 116]⟩) := c2
  replace c3 : w.cell? ⟨b, o + 3, none⟩ = some (.string ⟨#[116, 101, 120, 116]⟩) := c3
  clear hs hlen
  go_enter Tryz.func171, Tryz.ntmps171
  go_wp2
  go_loop [7] (fun i => ∃ k : Nat, k ≤ 4 ∧ i = .int .i64 k ∧ ∀ j, j < k → kindsL[j]? ≠ some x.toList) (fun i => 4 - (intOf i).toNat)
  case atStart => exact ⟨0, by omega, rfl, fun _ h => by omega⟩
  case round =>
    obtain ⟨j, hj, rfl, hnw⟩ := hrel
    have Hnw := hide hnw
    clear hnw
    by_cases hlj : j < 4
    · have h4 : j = 0 ∨ j = 1 ∨ j = 2 ∨ j = 3 := by omega
      obtain ⟨z, hz⟩ : ∃ z : Int, (j : Int) = z := ⟨_, rfl⟩
      rw [hz]
      rcases h4 with rfl | rfl | rfl | rfl
      all_goals
        simp only [Int.cast_ofNat_Int] at hz
        subst hz
        go_wp2
        · go_ret
          refine ⟨ret_int ?_, rfl⟩
          first
            | exact (nameIdx_hit (k := 0) rfl ‹(x.toList == _) = true› (unhide Hnw)).symm
            | exact (nameIdx_hit (k := 1) rfl ‹(x.toList == _) = true› (unhide Hnw)).symm
            | exact (nameIdx_hit (k := 2) rfl ‹(x.toList == _) = true› (unhide Hnw)).symm
            | exact (nameIdx_hit (k := 3) rfl ‹(x.toList == _) = true› (unhide Hnw)).symm
            | exact (nameIdx_hit0 rfl ‹x.toList.isEmpty = true›).symm
        · first
            | exact ⟨⟨_, by omega, by go_num, next_not (unhide Hnw) (not_name rfl ‹(x.toList == _) = false›)⟩, by simp [intOf]⟩
            | exact ⟨⟨_, by omega, by go_num, next_not (unhide Hnw) (not_name0 rfl ‹x.toList.isEmpty = false›)⟩, by simp [intOf]⟩
    · go_wp2
      go_ret
      obtain rfl : j = 4 := by omega
      exact ⟨ret_int (nameIdx_none rfl (unhide Hnw)).symm, rfl⟩

/-- The digits from place k on. -/
def digitsAt (l : List UInt8) (k : Nat) : List UInt8 := (l.drop k).takeWhile digitB
theorem extract_run (p : UInt8 → Bool) (s : ByteArray) (k : Nat) (hk : k ≤ s.size) : (s.extract k (runP p s.toList k)).toList = (s.toList.drop k).takeWhile p := by
  have hle := runP_le p s.toList k (by rw [size_toList]; exact hk)
  rw [bytes_toList, ByteArray.data_extract, Array.toList_extract, bytes_toList]
  rw [List.extract_eq_take_drop]
  unfold runP
  rw [Nat.add_sub_cancel_left]
  exact List.prefix_iff_eq_take.1 (List.takeWhile_prefix p) |>.symm
theorem all_takeWhile (p : UInt8 → Bool) : ∀ (l : List UInt8), (l.takeWhile p).all p = true
  | [] => rfl
  | c :: l => by
    rw [List.takeWhile_cons]
    cases h : p c
    · rfl
    · simp only [if_true, List.all_cons, h, all_takeWhile p l, Bool.and_self]

def numFrom (l : List UInt8) (k : Nat) (bad : Bool) : Nat := if seesV l k bad 45 then skipP l k + 1 else skipP l k
def numBadC (minus : Bool) (d : List UInt8) : Bool := d.isEmpty || ((d.head? == some 48) && (minus || decide (1 < d.length))) || decide (1099511627776 < numL d)
def numVal (l : List UInt8) (k : Nat) (bad : Bool) : Int :=
  if numBadC (seesV l k bad 45) (digitsAt l (numFrom l k bad)) then 0 else if seesV l k bad 45 then - numL (digitsAt l (numFrom l k bad)) else numL (digitsAt l (numFrom l k bad))
def numAt (l : List UInt8) (k : Nat) (bad : Bool) : Nat := runP digitB l (numFrom l k bad)
def numBad (l : List UInt8) (k : Nat) (bad : Bool) : Bool := if numBadC (seesV l k bad 45) (digitsAt l (numFrom l k bad)) then true else bad

theorem seesV_lt {l : List UInt8} {k : Nat} {bad : Bool} {c : UInt8} (h : seesV l k bad c = true) : skipP l k < l.length := by
  unfold seesV at h
  simp only [Bool.and_eq_true] at h
  exact moreV_lt h.1
end Go.Proofs.YtmghhakebhgckaaGreatDoor

namespace Go.Proofs.YtmghhakebhgckaaGreatDoor
set_option linter.unusedSimpArgs false
set_option linter.unusedVariables false
open Go.RowKit

/-- The part of 'number' behind the digits. -/
theorem numBadC_of {minus : Bool} {d : List UInt8} : numBadC minus d = true ↔ (d.isEmpty = true ∨ (d.head? = some 48 ∧ (minus = true ∨ 1 < d.length)) ∨ 1099511627776 < numL d) := by
  unfold numBadC
  simp [or_assoc]

theorem isEmpty_of_size {s : ByteArray} (h : s.size = 0) : s.toList.isEmpty = true := by
  rw [← size_toList] at h
  simpa using List.length_eq_zero_iff.1 h
theorem not_isEmpty_of_size {s : ByteArray} (h : 0 < s.size) : s.toList.isEmpty = false := by
  rw [← size_toList] at h
  cases e : s.toList with
  | nil => rw [e] at h; simp at h
  | cons a l => rfl
theorem head_of_size {s : ByteArray} (h : 0 < s.size) : s.toList.head? = some s[0] := by
  have h' : 0 < s.toList.length := by rw [size_toList]; exact h
  rw [List.head?_eq_getElem?, List.getElem?_eq_getElem h', toList_get s 0 h]
theorem ne48 {c : UInt8} (h : ((c.toNat : Int) == 48) = false) : ¬ (some c = some (48 : UInt8)) := fun e => by cases e; simp at h
theorem eq48 {c : UInt8} (h : ((c.toNat : Int) == 48) = true) : some c = some (48 : UInt8) := by
  simp at h
  have : c.toNat = 48 := by omega
  rw [← UInt8.toNat_inj.1 (show c.toNat = (48 : UInt8).toNat from this)]

set_option maxHeartbeats 3200000 in
theorem number_any (g : Nat) (s : ByteArray) (k : Nat) (bad : Bool) (w : World) (hr : RdAt w g s k bad) (hk : k ≤ s.size) (hs : s.size ≤ 1048576) :
    Calls Tryz.prog 122 #[.pointer (some ⟨g, 0, none⟩)] w fun e w' => e = .returned (.int .i64 (numVal s.toList k bad)) ∧ RdAt w' g s (numAt s.toList k bad) (numBad s.toList k bad) ∧ w.grownBy w' (some g) := by
  have hle := (skipP_le (l := s.toList) (k := k) (by rw [size_toList]; exact hk)).2
  rw [size_toList] at hle
  obtain ⟨m, hm⟩ : ∃ m, seesV s.toList k bad 45 = m := ⟨_, rfl⟩
  have hfr : numFrom s.toList k bad ≤ s.size := by
    unfold numFrom
    split
    · rename_i h; have := seesV_lt h; rw [size_toList] at this; omega
    · exact hle
  have Ef : Hid (numFrom s.toList k bad = if m then skipP s.toList k + 1 else skipP s.toList k) := by unfold Hid numFrom; rw [hm]
  obtain ⟨d, hd⟩ : ∃ d, digitsAt s.toList (numFrom s.toList k bad) = d := ⟨_, rfl⟩
  have E1 : Hid (numVal s.toList k bad = if numBadC m d then 0 else if m then - numL d else numL d) := by unfold Hid numVal; rw [hm, hd]
  have E2 : Hid (numBad s.toList k bad = if numBadC m d then true else bad) := by unfold Hid numBad; rw [hm, hd]
  have hstr := extract_run digitB s (numFrom s.toList k bad) hfr
  change _ = digitsAt _ _ at hstr
  rw [hd] at hstr
  have hda : d.all digitB = true := by rw [← hd]; exact all_takeWhile digitB _
  have hnb := numFold_bd d 0 (by omega) hda
  change 0 ≤ numL d ∧ numL d ≤ _ at hnb
  have E3 : Hid (numAt s.toList k bad = runP digitB s.toList (numFrom s.toList k bad)) := rfl
  obtain ⟨str, hst⟩ : ∃ str, s.extract (numFrom s.toList k bad) (runP digitB s.toList (numFrom s.toList k bad)) = str := ⟨_, rfl⟩
  rw [hst] at hstr
  have hsz : str.size = d.length := by rw [← size_toList, hstr]
  have hszs : str.size ≤ 1048576 := by
    rw [← hst, ByteArray.size_extract]; omega
  obtain ⟨st2, hst2⟩ : ∃ j, numFrom s.toList k bad = j := ⟨_, rfl⟩
  rw [hst2] at Ef E3 hfr hst
  have Hm := hide hm
  have Hst := hide hst
  have Hstr := hide hstr
  have Hsz := hide hsz
  have Hda := hide hda
  obtain ⟨hn1, hn2⟩ := hnb
  obtain ⟨n, hn⟩ : ∃ n, numL d = n := ⟨_, rfl⟩
  have Hn := hide hn
  rw [hn] at E1 hn1 hn2
  clear hm hd hst hstr hda hsz hst2 hn
  go_enter Tryz.func122, Tryz.ntmps122
  go_wp2_with fail
  refine (sees_any g s k bad 45 w hr hk hs).mono ?_
  rintro e w1 ⟨rfl, hr1, hg1⟩
  rw [unhide Hm]
  obtain ⟨c0, c1, c2, hf1⟩ := hr1.cells
  cases m
  · have Ef' : Hid (st2 = skipP s.toList k) := unhide Ef
    rw [← unhide Ef'] at hr1 c1
    clear Ef Ef'
    go_wp2_with fail
    refine (run_digit g s st2 bad w1 hr1 hfr hs).mono ?_
    rintro e w2 ⟨rfl, hr2, hg2⟩
    rw [unhide Hst]
    go_wp2_with fail
    refine (numberOf_any str w2 (by rw [unhide Hstr]; exact unhide Hda) hszs).mono ?_
    rintro e w3 ⟨rfl, rfl⟩
    rw [unhide Hstr, unhide Hn]
    obtain ⟨d0, d1, d2, hf2⟩ := hr2.cells
    clear c0 c1 c2 hf1
    by_cases hE : str.size = 0
    · have hb : numBadC false d = true := numBadC_of.2 (.inl (by rw [← unhide Hstr]; exact isEmpty_of_size hE))
      have Hb := hide hb
      have he : str.toList.isEmpty = true := isEmpty_of_size hE
      clear hb hE
      go_wp2
      go_ret
      exact ⟨ret_int (by rw [unhide E1, unhide Hb]; rfl), by rw [unhide E2, unhide E3, unhide Hb]; exact hr2.setBad _, grown_trans (grown_trans hg1 hg2) (grown_setCell _ _ _ _)⟩
    have hpos : 0 < str.size := by omega
    have he : str.toList.isEmpty = false := not_isEmpty_of_size hpos
    have hh : d.head? = some str[0] := by rw [← unhide Hstr]; exact head_of_size hpos
    have Hh := hide hh
    clear hh hE
    cases h0 : ((str[0].toNat : Int) == 48)
    · have hne : ¬ d.head? = some 48 := by rw [unhide Hh]; exact ne48 h0
      by_cases hmx : 1099511627776 < n
      · have Hb := hide (show numBadC false d = true from numBadC_of.2 (.inr (.inr (by rw [unhide Hn]; exact hmx))))
        clear hne
        go_wp2
        go_ret
        exact ⟨ret_int (by rw [unhide E1, unhide Hb]; rfl), by rw [unhide E2, unhide E3, unhide Hb]; exact hr2.setBad _, grown_trans (grown_trans hg1 hg2) (grown_setCell _ _ _ _)⟩
      · have Hb := hide (show numBadC false d = false from by
          rw [Bool.eq_false_iff]; intro h
          rcases numBadC_of.1 h with h | h | h
          · rw [← unhide Hstr, he] at h; cases h
          · exact hne h.1
          · rw [unhide Hn] at h; exact hmx h)
        clear hne
        go_wp2
        go_ret
        exact ⟨ret_int (by rw [unhide E1, unhide Hb]; rfl), by rw [unhide E2, unhide E3, unhide Hb]; exact hr2, grown_trans hg1 hg2⟩
    · by_cases hl1 : 1 < str.size
      · have Hb := hide (show numBadC false d = true from numBadC_of.2 (.inr (.inl ⟨by rw [unhide Hh]; exact eq48 h0, .inr (by rw [← unhide Hsz]; exact hl1)⟩)))
        have hd1 : decide (1 < str.size) = true := by simpa using hl1
        go_wp2
        go_ret
        exact ⟨ret_int (by rw [unhide E1, unhide Hb]; rfl), by rw [unhide E2, unhide E3, unhide Hb]; exact hr2.setBad _, grown_trans (grown_trans hg1 hg2) (grown_setCell _ _ _ _)⟩
      · by_cases hmx : 1099511627776 < n
        · have Hb := hide (show numBadC false d = true from numBadC_of.2 (.inr (.inr (by rw [unhide Hn]; exact hmx))))
          have hd1 : decide (1 < str.size) = false := by simpa using hl1
          go_wp2
          go_ret
          exact ⟨ret_int (by rw [unhide E1, unhide Hb]; rfl), by rw [unhide E2, unhide E3, unhide Hb]; exact hr2.setBad _, grown_trans (grown_trans hg1 hg2) (grown_setCell _ _ _ _)⟩
        · have Hb := hide (show numBadC false d = false from by
            rw [Bool.eq_false_iff]; intro h
            rcases numBadC_of.1 h with h | h | h
            · rw [← unhide Hstr, he] at h; cases h
            · rcases h.2 with h | h
              · cases h
              · rw [← unhide Hsz] at h; exact hl1 h
            · rw [unhide Hn] at h; exact hmx h)
          have hd1 : decide (1 < str.size) = false := by simpa using hl1
          go_wp2
          go_ret
          exact ⟨ret_int (by rw [unhide E1, unhide Hb]; rfl), by rw [unhide E2, unhide E3, unhide Hb]; exact hr2, grown_trans hg1 hg2⟩
  · have Ef' : Hid (st2 = skipP s.toList k + 1) := unhide Ef
    go_wp2_with fail
    have hr1' := hr1.setAt ((skipP s.toList k : Nat) + 1 : Int)
    rw [show ((skipP s.toList k : Nat) + 1 : Int) = ((st2 : Nat) : Int) by rw [unhide Ef']; simp] at hr1' ⊢
    clear Ef Ef'
    refine (run_digit g s st2 bad _ hr1' hfr hs).mono ?_
    rintro e w2 ⟨rfl, hr2, hg2⟩
    rw [unhide Hst]
    go_wp2_with fail
    refine (numberOf_any str w2 (by rw [unhide Hstr]; exact unhide Hda) hszs).mono ?_
    rintro e w3 ⟨rfl, rfl⟩
    rw [unhide Hstr, unhide Hn]
    obtain ⟨d0, d1, d2, hf2⟩ := hr2.cells
    clear c0 c1 c2 hf1 hr1'
    by_cases hE : str.size = 0
    · have hb : numBadC true d = true := numBadC_of.2 (.inl (by rw [← unhide Hstr]; exact isEmpty_of_size hE))
      have Hb := hide hb
      have he : str.toList.isEmpty = true := isEmpty_of_size hE
      clear hb hE
      go_wp2
      go_ret
      exact ⟨ret_int (by rw [unhide E1, unhide Hb]; rfl), by rw [unhide E2, unhide E3, unhide Hb]; exact hr2.setBad _, grown_trans (grown_trans (grown_trans hg1 (grown_setCell _ _ _ _)) hg2) (grown_setCell _ _ _ _)⟩
    have hpos : 0 < str.size := by omega
    have he : str.toList.isEmpty = false := not_isEmpty_of_size hpos
    have hh : d.head? = some str[0] := by rw [← unhide Hstr]; exact head_of_size hpos
    have Hh := hide hh
    clear hh hE
    cases h0 : ((str[0].toNat : Int) == 48)
    · have hne : ¬ d.head? = some 48 := by rw [unhide Hh]; exact ne48 h0
      by_cases hmx : 1099511627776 < n
      · have Hb := hide (show numBadC true d = true from numBadC_of.2 (.inr (.inr (by rw [unhide Hn]; exact hmx))))
        clear hne
        go_wp2
        go_ret
        exact ⟨ret_int (by rw [unhide E1, unhide Hb]; rfl), by rw [unhide E2, unhide E3, unhide Hb]; exact hr2.setBad _, grown_trans (grown_trans (grown_trans hg1 (grown_setCell _ _ _ _)) hg2) (grown_setCell _ _ _ _)⟩
      · have Hb := hide (show numBadC true d = false from by
          rw [Bool.eq_false_iff]; intro h
          rcases numBadC_of.1 h with h | h | h
          · rw [← unhide Hstr, he] at h; cases h
          · exact hne h.1
          · rw [unhide Hn] at h; exact hmx h)
        clear hne
        go_wp2
        go_ret
        exact ⟨ret_int (by rw [unhide E1, unhide Hb]; rfl), by rw [unhide E2, unhide E3, unhide Hb]; exact hr2, grown_trans (grown_trans hg1 (grown_setCell _ _ _ _)) hg2⟩
    · have Hb := hide (show numBadC true d = true from numBadC_of.2 (.inr (.inl ⟨by rw [unhide Hh]; exact eq48 h0, .inl rfl⟩)))
      go_wp2
      go_ret
      exact ⟨ret_int (by rw [unhide E1, unhide Hb]; rfl), by rw [unhide E2, unhide E3, unhide Hb]; exact hr2.setBad _, grown_trans (grown_trans (grown_trans hg1 (grown_setCell _ _ _ _)) hg2) (grown_setCell _ _ _ _)⟩
end Go.Proofs.YtmghhakebhgckaaGreatDoor

namespace Go.Proofs.YtmghhakebhgckaaGreatDoor
set_option linter.unusedSimpArgs false
set_option linter.unusedVariables false
open Go.RowKit

/-- All that 'gone' tells: the ids, and where it stands then. -/
structure GoneR where
  ids : List Int
  pos : Nat
  bad : Bool
def goneLoop (l : List UInt8) : Nat → Nat → Bool → List Int → GoneR
  | 0, k, bad, acc => ⟨acc, k, bad⟩
  | fuel + 1, k, bad, acc =>
    if moreV l k bad then
      if seesV l (skipP l k) bad 59 then ⟨acc, skipP l (skipP l k), bad⟩
      else goneLoop l fuel (numAt l (skipP l (skipP l k)) bad) (numBad l (skipP l (skipP l k)) bad) (acc ++ [numVal l (skipP l (skipP l k)) bad])
    else ⟨acc, skipP l k, bad⟩
def goneBad (l : List UInt8) (s : ByteArray) (k : Nat) (bad : Bool) : Bool := if (wordStr s k bad).toList == [103, 111, 110, 101] then wordBad l k bad else true
def goneP (s : ByteArray) (k : Nat) (bad : Bool) : GoneR := goneLoop s.toList (2 * s.size + 2) (wordAt s.toList k bad) (goneBad s.toList s k bad) []

theorem numFrom_le {l : List UInt8} {k : Nat} {bad : Bool} (hk : k ≤ l.length) : k ≤ numFrom l k bad ∧ numFrom l k bad ≤ l.length := by
  have h := skipP_le hk
  unfold numFrom
  split
  · rename_i h2; have := seesV_lt h2; omega
  · exact h
theorem numAt_le {l : List UInt8} {k : Nat} {bad : Bool} (hk : k ≤ l.length) : k ≤ numAt l k bad ∧ numAt l k bad ≤ l.length := by
  have h := numFrom_le (bad := bad) hk
  have h2 := runP_le digitB l (numFrom l k bad) h.2
  unfold numAt; omega
theorem numAt_lt {l : List UInt8} {k : Nat} {bad : Bool} (hk : k ≤ l.length) (h : numBad l k bad = false) : k < numAt l k bad := by
  have h1 := numFrom_le (bad := bad) hk
  unfold numBad at h
  have hc : numBadC (seesV l k bad 45) (digitsAt l (numFrom l k bad)) = false := by
    cases hh : numBadC (seesV l k bad 45) (digitsAt l (numFrom l k bad))
    · rfl
    · rw [hh] at h; cases h
  have hne : digitsAt l (numFrom l k bad) ≠ [] := fun e => by
    have := numBadC_of (minus := seesV l k bad 45) (d := digitsAt l (numFrom l k bad)) |>.2 (.inl (by rw [e]; rfl))
    rw [this] at hc; cases hc
  have : 0 < (digitsAt l (numFrom l k bad)).length := List.length_pos_iff.2 hne
  unfold numAt runP
  unfold digitsAt at this
  omega
theorem numBad_bad {l : List UInt8} {k : Nat} : numBad l k true = true := by unfold numBad; split <;> rfl
theorem moreV_bad {l : List UInt8} {k : Nat} {bad : Bool} (h : moreV l k bad = true) : bad = false := by
  unfold moreV at h; simp at h; exact h.1
theorem wordAt_le {l : List UInt8} {k : Nat} {bad : Bool} (hk : k ≤ l.length) : k ≤ wordAt l k bad ∧ wordAt l k bad ≤ l.length := by
  have h := skipP_le hk
  have h2 := runP_le letterB l (skipP l k) h.2
  unfold wordAt
  split <;> omega

def badOf (w : World) (g : Nat) : Bool := match w.cell? ⟨g, 2, none⟩ with | some (.bool b) => b | _ => false
def rdMeas (n : Nat) (w : World) (g : Nat) : Nat := 2 * (n - posOf w g) + (if badOf w g then 0 else 1)
theorem rdMeas_of {w : World} {g : Nat} {s : ByteArray} {k : Nat} {bad : Bool} (h : RdAt w g s k bad) (n : Nat) : rdMeas n w g = 2 * (n - k) + (if bad then 0 else 1) := by
  obtain ⟨_, c1, c2, _⟩ := h.cells
  simp [rdMeas, posOf, badOf, c1, c2, intOf]

theorem kept_some {w w' : World} {base g : Nat} {e : TypeId} {size : Nat} {v : Value} {n : Nat} {xs : List Value} (h : w.ownsRow base e size v n xs) (hg : w.grownBy w' (some g)) (hlt : g < base) : w'.ownsRow base e size v n xs :=
  h.kept hg (by
    cases hb : v.ownBlock with
    | none => exact .inl rfl
    | some k => right; have := (h.lt k hb).1; intro e; cases e; omega)

theorem grown_own {w w4 w5 : World} {g : Nat} {e : TypeId} {k : Nat} {v : Value} {n : Nat} {xs : List Value} (h4 : w.grownBy w4 (some g)) (h5 : w4.grownBy w5 v.ownBlock) (ho : w4.ownsRow w.heap.size e k v n xs) : w.grownBy w5 (some g) :=
  ⟨h5.os.trans h4.os, h5.tape.trans h4.tape, h5.output.trans h4.output, Nat.le_trans h4.size h5.size, fun i hi hn => (h5.block i (Nat.lt_of_lt_of_le hi h4.size) (fun e => by have := (ho.lt i e.symm).1; omega)).trans (h4.block i hi hn)⟩
theorem gone_out {w w0 : World} {v : Value} {acc : List Int} (h : w.ownsRow w0.heap.size 3 1 v acc.length (acc.flatMap encI)) : ∃ sv : SV, v = .slice sv.a sv.len sv.cap ∧ IntsAt w sv acc ∧ sv.ok ∧ sv.Fresh w0 := by
  obtain ⟨sv, rfl, hsl⟩ := ints_of_owns h rfl
  exact ⟨sv, rfl, hsl, ok_of_owns h, fresh_of_owns h (Nat.le_refl _)⟩

set_option maxHeartbeats 1600000 in
theorem gone_any (g : Nat) (s : ByteArray) (k : Nat) (bad : Bool) (w : World) (hr : RdAt w g s k bad) (hk : k ≤ s.size) (hs : s.size ≤ 524288) :
    Calls Tryz.prog 121 #[.pointer (some ⟨g, 0, none⟩)] w fun e w' => ∃ sv : SV, e = .returned (.slice sv.a sv.len sv.cap) ∧ IntsAt w' sv (goneP s k bad).ids ∧ sv.ok ∧ sv.Fresh w ∧ RdAt w' g s (goneP s k bad).pos (goneP s k bad).bad ∧ w.grownBy w' (some g) := by
  have hgl : g < w.heap.size := lt_of_heap hr
  have hwl := wordAt_le (l := s.toList) (k := k) (bad := bad) (by rw [size_toList]; exact hk)
  rw [size_toList] at hwl
  have E : Hid (goneP s k bad = goneLoop s.toList (2 * s.size + 2) (wordAt s.toList k bad) (goneBad s.toList s k bad) []) := rfl
  -- from the loop on
  obtain ⟨k1, hk1⟩ : ∃ j, wordAt s.toList k bad = j := ⟨_, rfl⟩
  obtain ⟨b1, hb1⟩ : ∃ j, goneBad s.toList s k bad = j := ⟨_, rfl⟩
  rw [hk1] at hwl
  have Hk1 := hide hk1
  have Hb1 := hide hb1
  rw [hk1, hb1] at E
  clear hk1 hb1
  go_enter Tryz.func121, Tryz.ntmps121
  go_wp2_with fail
  refine (word_any g s k bad w hr hk (by omega)).mono ?_
  rintro e w1 ⟨rfl, hr1, hg1⟩
  rw [unhide Hk1] at hr1
  obtain ⟨c0, c1, c2, hf1⟩ := hr1.cells
  have hw2 : ∃ (W : World), RdAt W g s k1 b1 ∧ w.grownBy W (some g) ∧ ((((wordStr s k bad).toList == [103, 111, 110, 101]) = false ∧ W = w1.setCell ⟨g, 2, none⟩ (.bool true)) ∨ (((wordStr s k bad).toList == [103, 111, 110, 101]) = true ∧ W = w1)) := by
    cases hw : ((wordStr s k bad).toList == [103, 111, 110, 101])
    · have hb : b1 = true := by rw [← unhide Hb1]; unfold goneBad; rw [hw]; rfl
      exact ⟨_, by rw [hb]; exact hr1.setBad true, grown_trans hg1 (grown_setCell _ _ _ _), .inl ⟨rfl, rfl⟩⟩
    · have hb : wordBad s.toList k bad = b1 := by rw [← unhide Hb1]; unfold goneBad; rw [hw]; rfl
      exact ⟨_, by rw [hb] at hr1; exact hr1, hg1, .inr ⟨rfl, rfl⟩⟩
  obtain ⟨W, hrW, hgW, hcase⟩ := hw2
  have Hst : Hid (RdAt W g s k1 b1 ∧ w.grownBy W (some g)) := ⟨hrW, hgW⟩
  clear hr1 hg1 hrW hgW
  rcases hcase with ⟨hw, rfl⟩ | ⟨hw, rfl⟩
  all_goals
    go_wp2
    clear c0 c1 c2 hf1 hw
    go_loopw [3] (fun v wr => ∃ (j : Nat) (b : Bool) (acc : List Int) (fuel : Nat), k1 ≤ j ∧ j ≤ s.size ∧ RdAt wr g s j b ∧ w.grownBy wr (some g) ∧ wr.ownsRow w.heap.size 3 1 v acc.length (acc.flatMap encI) ∧ acc.length ≤ j + (if b then 1 else 0) ∧ 2 * (s.size - j) + (if b then 0 else 1) < fuel ∧ goneP s k bad = goneLoop s.toList fuel j b acc) (fun v wr => rdMeas s.size wr g)
    case atStart =>
      obtain ⟨hrW, hgW⟩ := unhide Hst
      exact ⟨k1, b1, [], 2 * s.size + 2, by omega, hwl.2, hrW, hgW, World.ownsRow_nil _ _ _ _, by simp, by split <;> omega, unhide E⟩
    case round =>
      obtain ⟨j, b, acc, fuel, hkj, hj, hrr, hgr, hown, hacc, hfuel, hP⟩ := hrel
      have Hms := hide (rdMeas_of hrr s.size)
      have hzw : w.heap.size ≤ wr.heap.size := hgr.size
      obtain ⟨fuel, rfl⟩ : ∃ f, fuel = f + 1 := ⟨fuel - 1, by omega⟩
      have HP := hide hP
      have Hown := hide hown
      have Hacc := hide hacc
      have Hfuel := hide hfuel
      clear hP hown hacc hfuel Hst E
      have hsk := skipP_le (l := s.toList) (k := j) (by rw [size_toList]; exact hj)
      rw [size_toList] at hsk
      go_wp2_with fail
      refine (more_any g s j b wr hrr hj (by omega)).mono ?_
      rintro e w2 ⟨rfl, hr2, hg2⟩
      cases hm : moreV s.toList j b
      · have Hm := hide hm
        clear hm
        have EP : Hid (goneP s k bad = ⟨acc, skipP s.toList j, b⟩) := by unfold Hid; rw [unhide HP]; unfold goneLoop; rw [unhide Hm]; rfl
        obtain ⟨sv, hv, hsl, hok, hfr⟩ := gone_out (kept_some (unhide Hown) hg2 hgl)
        have Hv := hide hv
        clear hv
        go_wp2
        go_ret
        exact ⟨sv, by rw [← unhide Hv]; rfl, by rw [unhide EP]; exact hsl, hok, hfr, by rw [unhide EP]; exact hr2, grown_trans hgr hg2⟩
      · have Hm := hide hm
        clear hm
        go_wp2_with fail
        refine (sees_any g s (skipP s.toList j) b 59 w2 hr2 hsk.2 (by omega)).mono ?_
        rintro e w3 ⟨rfl, hr3, hg3⟩
        cases hm2 : seesV s.toList (skipP s.toList j) b 59
        · have Hm2 := hide hm2
          clear hm2
          have hsk2 := skipP_le (l := s.toList) (k := skipP s.toList j) (by rw [size_toList]; exact hsk.2)
          rw [size_toList] at hsk2
          go_wp2_with fail
          refine (number_any g s (skipP s.toList (skipP s.toList j)) b w3 hr3 hsk2.2 (by omega)).mono ?_
          rintro e w4 ⟨rfl, hr4, hg4⟩
          have hg24 := grown_trans hg2 (grown_trans hg3 hg4)
          have hown4 := kept_some (unhide Hown) hg24 hgl
          obtain ⟨X, hX⟩ : ∃ X, numVal s.toList (skipP s.toList (skipP s.toList j)) b = X := ⟨_, rfl⟩
          rw [hX]
          have Hacc2 : acc.length < 1048576 := by have := unhide Hacc; split at this <;> omega
          have hz4 : w.heap.size ≤ w4.heap.size := Nat.le_trans hzw hg24.size
          have hna := numAt_le (l := s.toList) (k := skipP s.toList (skipP s.toList j)) (bad := b) (by rw [size_toList]; exact hsk2.2)
          rw [size_toList] at hna
          have EP : Hid (goneP s k bad = goneLoop s.toList fuel (numAt s.toList (skipP s.toList (skipP s.toList j)) b) (numBad s.toList (skipP s.toList (skipP s.toList j)) b) (acc ++ [X])) := by
            unfold Hid; rw [unhide HP, ← hX]; conv => lhs; unfold goneLoop
            rw [unhide Hm, unhide Hm2]; rfl
          have hb0 : b = false := moreV_bad (unhide Hm)
          have hlt5 : numBad s.toList (skipP s.toList (skipP s.toList j)) b = false → j < numAt s.toList (skipP s.toList (skipP s.toList j)) b := fun h => by
            have := numAt_lt (l := s.toList) (k := skipP s.toList (skipP s.toList j)) (bad := b) (by rw [size_toList]; exact hsk2.2) h
            omega
          obtain ⟨j5, hj5⟩ : ∃ x, numAt s.toList (skipP s.toList (skipP s.toList j)) b = x := ⟨_, rfl⟩
          obtain ⟨b5, hb5⟩ : ∃ x, numBad s.toList (skipP s.toList (skipP s.toList j)) b = x := ⟨_, rfl⟩
          rw [hj5, hb5] at EP hlt5 hr4
          rw [hj5] at hna
          have Hrest : Hid (k1 ≤ j5 ∧ j5 ≤ s.size ∧ (acc ++ [X]).length ≤ j5 + (if b5 then 1 else 0) ∧ 2 * (s.size - j5) + (if b5 then 0 else 1) < fuel ∧ 2 * (s.size - j5) + (if b5 then 0 else 1) < 2 * (s.size - j) + (if b then 0 else 1)) := by
            have h1 := unhide Hacc
            have h2 := unhide Hfuel
            rw [hb0] at h1 h2 ⊢
            simp only [Bool.false_eq_true, if_false] at h1 h2 ⊢
            rw [List.length_append, List.length_singleton]
            cases b5
            · have := hlt5 rfl
              simp only [Bool.false_eq_true, if_false]
              refine ⟨by omega, by omega, by omega, by omega, by omega⟩
            · simp only [if_true]
              refine ⟨by omega, by omega, by omega, by omega, by omega⟩
          clear hlt5 hb0 hX hj5 hb5 hna
          go_wp2_with (at_builtin; refine wpList_app1 _ _ 27 3 (.int .i64 0) 1 8 Tryz.underlying27 info3 rfl (by decide) (by decide) rfl rfl w.heap.size _ acc.length _ rfl (hown4.alloc _) w4.heap.size 1 [.int .i64 X] rfl rfl ?c1 ?c2 ?c3 ?c4 ?_)
          case c1 => exact range_of_new1 _ _ _ (by simp)
          case c2 => intro u hu; simp at hu; subst hu; rfl
          case c3 => exact Hacc2
          case c4 => simp; omega
          intro v5 w5 hown5 hg5
          have hown5' : Hid (w5.ownsRow w.heap.size 3 1 v5 (acc ++ [X]).length ((acc ++ [X]).flatMap encI)) := by
            unfold Hid
            rw [List.length_append, List.length_singleton, List.flatMap_append]
            simpa [encI] using hown5
          have hr5 : RdAt w5 g s j5 b5 := by
            have h0 := (hr4.ext ((Ext.refl w4).alloc (.cells #[.int .i64 X] 3)))
            unfold RdAt at h0 ⊢
            rw [hg5.block g (lt_of_heap h0) (by
              intro e
              have := (hown4.lt g e.symm).1
              omega)]
            exact h0
          have hgw5 : w.grownBy w5 (some g) := grown_own (grown_trans (grown_trans hgr hg24) (((Ext.refl w4).alloc _).grows _)) hg5 (hown4.alloc _)
          have Hms5 := hide (rdMeas_of hr5 s.size)
          clear hown5 hown4 hg5 hg24
          go_wp2
          obtain ⟨r1, r2, r3, r4, r5⟩ := unhide Hrest
          exact ⟨⟨j5, b5, acc ++ [X], fuel, r1, r2, hr5, hgw5, unhide hown5', r3, r4, unhide EP⟩, by rw [unhide Hms, unhide Hms5]; exact r5⟩
        · have Hm2 := hide hm2
          clear hm2
          have EP : Hid (goneP s k bad = ⟨acc, skipP s.toList (skipP s.toList j), b⟩) := by unfold Hid; rw [unhide HP]; unfold goneLoop; rw [unhide Hm, unhide Hm2]; rfl
          obtain ⟨sv, hv, hsl, hok, hfr⟩ := gone_out (kept_some (unhide Hown) (grown_trans hg2 hg3) hgl)
          have Hv := hide hv
          clear hv
          go_wp2
          go_ret
          exact ⟨sv, by rw [← unhide Hv]; rfl, by rw [unhide EP]; exact hsl, hok, hfr, by rw [unhide EP]; exact hr3, grown_trans hgr (grown_trans hg2 hg3)⟩
end Go.Proofs.YtmghhakebhgckaaGreatDoor

namespace Go.Proofs.YtmghhakebhgckaaGreatDoor
set_option linter.unusedSimpArgs false
set_option linter.unusedVariables false
open Go.RowKit

structure FieldR where
  f : FieldM
  pos : Nat
  bad : Bool
def fieldBad (rule : ByteArray) (bad : Bool) : Bool := if nameIdx rulesL rule.toList == 0 then true else bad
def fieldP (s : ByteArray) (k : Nat) (bad : Bool) (id : Int) (rule : ByteArray) : FieldR :=
  let b0 := fieldBad rule bad
  let w1 := wordStr s k b0
  let k1 := wordAt s.toList k b0
  let b1 := wordBad s.toList k b0
  let kind := nameIdx kindsL w1.toList
  ⟨⟨id, wordStr s k1 b1, if kind == 0 then w1 else ⟨#[]⟩, kind, nameIdx rulesL rule.toList⟩, wordAt s.toList k1 b1, wordBad s.toList k1 b1⟩

theorem Ext.grownSome {a w w' : World} {g : Nat} (h : Ext a w) (hg : w.grownBy w' (some g)) (hag : a.heap.size ≤ g) : Ext a w' := h.grown hg (fun k e => by cases e; exact hag)
/-- A block that is not the reader's stays. -/
theorem heap_grown {w w' : World} {g b : Nat} {o : Obj} (hg : w.grownBy w' (some g)) (hb : w.heap[b]? = some o) (hne : b ≠ g) : w'.heap[b]? = some o := by
  rw [hg.block b (lt_of_heap hb) (fun e => hne (Option.some.inj e))]; exact hb

theorem RdAt.other {w : World} {g : Nat} {s : ByteArray} {k : Int} {bad : Bool} (h : RdAt w g s k bad) {p : Addr} (hp : g ≠ p.block) (u : Value) : RdAt (w.setCell p u) g s k bad := by
  unfold RdAt at *; rw [heap_setCell_other _ _ _ _ hp]; exact h
theorem grown_setNew {w W : World} {r : Option Nat} (h : w.grownBy W r) {p : Addr} (hp : w.heap.size ≤ p.block) (u : Value) : w.grownBy (W.setCell p u) r :=
  ⟨h.os, h.tape, h.output, by simp only [World.setCell, Array.size_modify]; exact h.size, fun i hi hn => (Below.heap_setCell _ _ _ _ (by omega)).trans (h.block i hi hn)⟩

set_option maxHeartbeats 1600000 in
theorem field_any (w0 : World) (g : Nat) (s : ByteArray) (k : Nat) (bad : Bool) (id : Int) (rule : ByteArray) (w : World) (hx0 : Ext w0 w) (hg0 : w0.heap.size ≤ g) (hn1 : NamesAt w0 1 rulesL) (hn2 : NamesAt w0 2 kindsL)
    (hr : RdAt w g s k bad) (hk : k ≤ s.size) (hs : s.size ≤ 524288) (R : FieldR) (hR : fieldP s k bad id rule = R) :
    Calls Tryz.prog 123 #[.pointer (some ⟨g, 0, none⟩), .int .i64 id, .string rule] w fun e w' => e = .returned (.agg #[.int .i64 R.f.id, .string R.f.name, .string R.f.type, .int .i64 R.f.kind, .int .i64 R.f.rule]) ∧ RdAt w' g s R.pos R.bad ∧ w.grownBy w' (some g) := by
  have hgl : g < w.heap.size := lt_of_heap hr
  have hx1 : Ext w0 (w.alloc (.cells #[.int .i64 0, .string ⟨#[]⟩, .string ⟨#[]⟩, .int .i64 0, .int .i64 0] 34)) := hx0.alloc _
  have hn1' := hn1.ext hx1
  obtain ⟨rl, hrl⟩ : ∃ x, nameIdx rulesL rule.toList = x := ⟨_, rfl⟩
  obtain ⟨b0, hb0⟩ : ∃ x, fieldBad rule bad = x := ⟨_, rfl⟩
  have hwl := wordAt_le (l := s.toList) (k := k) (bad := b0) (by rw [size_toList]; exact hk)
  rw [size_toList] at hwl
  obtain ⟨w1s, hw1s⟩ : ∃ x, wordStr s k b0 = x := ⟨_, rfl⟩
  obtain ⟨k1, hk1⟩ : ∃ x, wordAt s.toList k b0 = x := ⟨_, rfl⟩
  obtain ⟨b1, hb1⟩ : ∃ x, wordBad s.toList k b0 = x := ⟨_, rfl⟩
  obtain ⟨kd, hkd⟩ : ∃ x, nameIdx kindsL w1s.toList = x := ⟨_, rfl⟩
  have E : Hid (fieldP s k bad id rule = ⟨⟨id, wordStr s k1 b1, if kd == 0 then w1s else ⟨#[]⟩, kd, rl⟩, wordAt s.toList k1 b1, wordBad s.toList k1 b1⟩) := by
    unfold Hid fieldP; simp only; rw [hb0, hw1s, hk1, hb1, hkd, hrl]
  rw [hk1] at hwl
  have Hrl := hide hrl
  have Hb0 := hide hb0
  have Hw1 := hide hw1s
  have Hk1 := hide hk1
  have Hb1 := hide hb1
  have Hkd := hide hkd
  clear hrl hb0 hw1s hk1 hb1 hkd hn1
  rw [unhide E] at hR
  obtain ⟨nm2, hnm2⟩ : ∃ x, wordStr s k1 b1 = x := ⟨_, rfl⟩
  obtain ⟨k2, hk2⟩ : ∃ x, wordAt s.toList k1 b1 = x := ⟨_, rfl⟩
  obtain ⟨b2, hb2⟩ : ∃ x, wordBad s.toList k1 b1 = x := ⟨_, rfl⟩
  obtain ⟨ty, hty⟩ : ∃ x : ByteArray, (if kd == 0 then w1s else ⟨#[]⟩) = x := ⟨_, rfl⟩
  rw [hnm2, hk2, hb2, hty] at hR
  subst hR
  have Hnm2 := hide hnm2
  have Hk2 := hide hk2
  have Hb2 := hide hb2
  have Hty := hide hty
  clear hnm2 hk2 hb2 hty E
  simp only
  go_enter Tryz.func123, Tryz.ntmps123
  go_wp2_with fail
  refine (ruleOf_any rule _ hn1').mono ?_
  rintro e wa ⟨rfl, rfl⟩
  rw [unhide Hrl]
  clear hn1'
  -- what lies in memory, once the rule is looked at
  have hcs : ∃ W : World, RdAt W g s k b0 ∧ W.heap[w.heap.size]? = some (.cells #[.int .i64 0, .string ⟨#[]⟩, .string ⟨#[]⟩, .int .i64 0, .int .i64 0] 34 (0, 0)) ∧ W.heap[w.heap.size + 1]? = some (.cells #[.int .i64 id, .string ⟨#[]⟩, .string ⟨#[]⟩, .int .i64 0, .int .i64 rl] 34 (0, 0)) ∧ w.grownBy W (some g) ∧
      (((rl == 0) = true ∧ W = ((w.setCell ⟨g, 2, none⟩ (.bool true)).alloc (.cells #[.int .i64 0, .string ⟨#[]⟩, .string ⟨#[]⟩, .int .i64 0, .int .i64 0] 34)).alloc (.cells #[.int .i64 id, .string ⟨#[]⟩, .string ⟨#[]⟩, .int .i64 0, .int .i64 rl] 34)) ∨ ((rl == 0) = false ∧ W = (w.alloc (.cells #[.int .i64 0, .string ⟨#[]⟩, .string ⟨#[]⟩, .int .i64 0, .int .i64 0] 34)).alloc (.cells #[.int .i64 id, .string ⟨#[]⟩, .string ⟨#[]⟩, .int .i64 0, .int .i64 rl] 34))) := by
    cases hz : (rl == 0)
    · have hb : bad = b0 := by rw [← unhide Hb0]; unfold fieldBad; rw [unhide Hrl, hz]; rfl
      rw [← hb]
      exact ⟨_, hr.ext (((Ext.refl w).alloc _).alloc _), heap_alloc2_old _ _ _, heap_alloc2_new _ _ _, (((Ext.refl w).alloc _).alloc _).grows _, .inr ⟨rfl, rfl⟩⟩
    · have hb : true = b0 := by rw [← unhide Hb0]; unfold fieldBad; rw [unhide Hrl, hz]; rfl
      rw [← hb]
      refine ⟨_, (hr.setBad true).ext (((Ext.refl _).alloc _).alloc _), ?_, ?_, grown_trans (grown_setCell _ _ _ _) ((((Ext.refl _).alloc _).alloc _).grows _), .inl ⟨rfl, rfl⟩⟩
      · have := heap_alloc2_old (w.setCell ⟨g, 2, none⟩ (.bool true)) (.cells #[.int .i64 0, .string ⟨#[]⟩, .string ⟨#[]⟩, .int .i64 0, .int .i64 0] 34) (.cells #[.int .i64 id, .string ⟨#[]⟩, .string ⟨#[]⟩, .int .i64 0, .int .i64 rl] 34)
        simpa using this
      · have := heap_alloc2_new (w.setCell ⟨g, 2, none⟩ (.bool true)) (.cells #[.int .i64 0, .string ⟨#[]⟩, .string ⟨#[]⟩, .int .i64 0, .int .i64 0] 34) (.cells #[.int .i64 id, .string ⟨#[]⟩, .string ⟨#[]⟩, .int .i64 0, .int .i64 rl] 34)
        simpa using this
  obtain ⟨W, hrW, hA, hB, hgW, hcase⟩ := hcs
  have HW := hide (And.intro hrW (And.intro hA (And.intro hB hgW)))
  obtain ⟨c0, c1, c2, hf1⟩ := hr.cells
  clear hrW hA hB hgW
  rcases hcase with ⟨hz, rfl⟩ | ⟨hz, rfl⟩
  all_goals
    go_wp2_with fail
    obtain ⟨hrW, hA, hB, hgW⟩ := unhide HW
    refine (word_any g s k b0 _ hrW hk (by omega)).mono ?_
    rintro e w2 ⟨rfl, hr2, hg2⟩
    rw [unhide Hw1]
    rw [unhide Hk1, unhide Hb1] at hr2
    have hA2 := heap_grown hg2 hA (by omega)
    have hB2 := heap_grown hg2 hB (by omega)
    have hgW2 := grown_trans hgW hg2
    have hxx : Ext w0 w2 := hx0.grownSome hgW2 hg0
    have hnk := hn2.ext hxx
    clear hA hB hrW hgW HW hg2 c0 c1 c2 hf1
    obtain ⟨a0, a1, a2, a3, a4, af⟩ := row5 hA2
    obtain ⟨d0, d1, d2, d3, d4, df⟩ := row5 hB2
    have hzw : w.heap.size + 1 < w2.heap.size := lt_of_heap hB2
    go_wp2_with fail
    refine (kindOfWord_any w1s w2 hnk).mono ?_
    rintro e w3 ⟨rfl, rfl⟩
    rw [unhide Hkd]
    clear hnk
    cases hkz : (kd == 0)
    · have hty : ty = ⟨#[]⟩ := by rw [← unhide Hty, hkz]; rfl
      have hB3 := heap_setCell_same w3 (w.heap.size + 1) 3 _ 34 (.int .i64 kd) hB2
      have hr3 : RdAt (w3.setCell ⟨w.heap.size + 1, 3, none⟩ (.int .i64 kd)) g s k1 b1 := by
        unfold RdAt; rw [heap_setCell_other _ _ _ _ (show g ≠ w.heap.size + 1 by omega)]; exact hr2
      have hA3 := hA2
      rw [← heap_setCell_other w3 ⟨w.heap.size + 1, 3, none⟩ w.heap.size (.int .i64 kd) (show w.heap.size ≠ w.heap.size + 1 by omega)] at hA3
      have Hty2 := hide hty
      clear hty
      go_wp2_with fail
      refine (word_any g s k1 b1 _ hr3 hwl.2 (by omega)).mono ?_
      rintro e w4 ⟨rfl, hr4, hg4⟩
      rw [unhide Hnm2]
      rw [unhide Hk2, unhide Hb2] at hr4
      have hA4 := heap_grown hg4 hA3 (by omega)
      have hB4 := heap_grown hg4 hB3 (by omega)
      simp only [List.setIfInBounds_toArray, List.set_cons_succ, List.set_cons_zero] at hB4
      clear hB3 hA3 hr3 a0 a1 a2 a3 a4 af d0 d1 d2 d3 d4 df
      obtain ⟨a0, a1, a2, a3, a4, af⟩ := row5 hA4
      obtain ⟨d0, d1, d2, d3, d4, df⟩ := row5 hB4
      have hzw4 : w.heap.size + 1 < w4.heap.size := lt_of_heap hB4
      go_wp2
      refine bodyPost_ret (v := .agg #[.int .i64 id, .string nm2, .string ⟨#[]⟩, .int .i64 kd, .int .i64 rl]) (by simp [results, Tryz.results123, go_sem, a0, a1, a2, a3, a4]) rfl ⟨by rw [unhide Hty2], ?_, ?_⟩
      · exact (((((hr4.other (by simp; omega) _).other (by simp; omega) _).other (by simp; omega) _).other (by simp; omega) _).other (by simp; omega) _).other (by simp; omega) _
      · exact grown_setNew (grown_setNew (grown_setNew (grown_setNew (grown_setNew (grown_setNew (grown_trans (grown_setNew hgW2 (by simp) _) hg4) (by simp) _) (by simp) _) (by simp) _) (by simp) _) (by simp) _) (by simp) _
    · have hty : ty = w1s := by rw [← unhide Hty, hkz]; rfl
      have hB3 := heap_setCell_same w3 (w.heap.size + 1) 3 _ 34 (.int .i64 kd) hB2
      simp only [List.setIfInBounds_toArray, List.set_cons_succ, List.set_cons_zero] at hB3
      replace hB3 := heap_setCell_same _ (w.heap.size + 1) 2 _ 34 (.string w1s) hB3
      simp only [List.setIfInBounds_toArray, List.set_cons_succ, List.set_cons_zero] at hB3
      have hr3 : RdAt ((w3.setCell ⟨w.heap.size + 1, 3, none⟩ (.int .i64 kd)).setCell ⟨w.heap.size + 1, 2, none⟩ (.string w1s)) g s k1 b1 := (hr2.other (by simp; omega) _).other (by simp; omega) _
      have hA3 := hA2
      rw [← heap_setCell_other w3 ⟨w.heap.size + 1, 3, none⟩ w.heap.size (.int .i64 kd) (show w.heap.size ≠ w.heap.size + 1 by omega), ← heap_setCell_other _ ⟨w.heap.size + 1, 2, none⟩ w.heap.size (.string w1s) (show w.heap.size ≠ w.heap.size + 1 by omega)] at hA3
      have Hty2 := hide hty
      clear hty
      go_wp2_with fail
      refine (word_any g s k1 b1 _ hr3 hwl.2 (by omega)).mono ?_
      rintro e w4 ⟨rfl, hr4, hg4⟩
      rw [unhide Hnm2]
      rw [unhide Hk2, unhide Hb2] at hr4
      have hA4 := heap_grown hg4 hA3 (by omega)
      have hB4 := heap_grown hg4 hB3 (by omega)
      clear hB3 hA3 hr3 a0 a1 a2 a3 a4 af d0 d1 d2 d3 d4 df
      obtain ⟨a0, a1, a2, a3, a4, af⟩ := row5 hA4
      obtain ⟨d0, d1, d2, d3, d4, df⟩ := row5 hB4
      have hzw4 : w.heap.size + 1 < w4.heap.size := lt_of_heap hB4
      go_wp2
      refine bodyPost_ret (v := .agg #[.int .i64 id, .string nm2, .string w1s, .int .i64 kd, .int .i64 rl]) (by simp [results, Tryz.results123, go_sem, a0, a1, a2, a3, a4]) rfl ⟨by rw [unhide Hty2], ?_, ?_⟩
      · exact (((((hr4.other (by simp; omega) _).other (by simp; omega) _).other (by simp; omega) _).other (by simp; omega) _).other (by simp; omega) _).other (by simp; omega) _
      · exact grown_setNew (grown_setNew (grown_setNew (grown_setNew (grown_setNew (grown_setNew (grown_trans (grown_setNew (grown_setNew hgW2 (by simp) _) (by simp) _) hg4) (by simp) _) (by simp) _) (by simp) _) (by simp) _) (by simp) _) (by simp) _
end Go.Proofs.YtmghhakebhgckaaGreatDoor

namespace Go.Proofs.YtmghhakebhgckaaGreatDoor
set_option linter.unusedSimpArgs false
set_option linter.unusedVariables false
open Go.RowKit

/-- Whatever order is picked from here on; 'S' holds behind each operation, till one of 'B' has been carried out. -/
def wpAnyX (P : Program) (ops : Array Oper) (Q : Exit → Act → World → Prop) (S : World → Prop) (B : Nat → Bool) : Nat → Array Bool → Act → World → Prop
  | 0, listed, a, w => Region.ready .any ops listed = [] ∧ Q .normal a w
  | fuel + 1, listed, a, w =>
    (Region.ready .any ops listed = [] → Q .normal a w) ∧
    ∀ j ∈ Region.ready .any ops listed, wpOp P ops Q j (fun a' w' => (B j = true → wpAny P .any ops Q fuel (listed.setIfInBounds j true) a' w') ∧ (B j = false → S w' ∧ wpAnyX P ops Q S B fuel (listed.setIfInBounds j true) a' w')) a w

section
variable {P : Program} {ops : Array Oper} {Q : Exit → Act → World → Prop} {S : World → Prop} {B : Nat → Bool}

theorem wpAny_of_X : ∀ (fuel : Nat) (listed : Array Bool) (a : Act) (w : World), wpAnyX P ops Q S B fuel listed a w → wpAny P .any ops Q fuel listed a w
  | 0, _, _, _, h => h
  | fuel + 1, _, _, _, h => ⟨h.1, fun j hj => wpOp_mono (fun a' w' h' => by
      cases hB : B j
      · exact wpAny_of_X fuel _ a' w' (h'.2 hB).2
      · exact h'.1 hB) (h.2 j hj)⟩

/-- An operation that reads only what S holds fast may be taken first, if whatever S need not outlive waits for it. -/
theorem wpAnyX_first {i : Nat} {oi : Oper} {v : Value} (hi : ops[i]? = some oi) (hsel : ∀ (j : Nat) (o : Oper) cs b, ops[j]? = some o → o.op ≠ .select cs b)
    (hQ : ∀ c a w, Q (.panic c) (a.put oi.dst v) w → Q (.panic c) a w) (hBi : B i = false) :
    ∀ (fuel : Nat) (listed : Array Bool) (a : Act) (w : World),
      (∀ j oj, ops[j]? = some oj → j ≠ i → listed.getD j true = false → (∀ e ∈ oj.after, Region.binds .any e = true → e.on ≠ i) → oi.apart ops oj = true ∧ B j = false) →
      i ∈ Region.ready .any ops listed → YieldsIf P ops S oi v a → S w →
      wpAnyX P ops Q S B fuel (listed.setIfInBounds i true) (a.put oi.dst v) w → wpAnyX P ops Q S B (fuel + 1) listed a w := by
  intro fuel
  induction fuel with
  | zero =>
    intro listed a w _ hr hy hS H
    refine And.intro (fun h => by rw [h] at hr; cases hr) (fun j hj => ?_)
    by_cases hji : j = i
    · subst hji
      exact hy.wpOp hi hS ⟨fun h => (by rw [hBi] at h; cases h), fun _ => ⟨hS, H⟩⟩
    · have := ready_mono hj hji
      rw [H.1] at this
      cases this
  | succ fuel ih =>
    intro listed a w hfree hr hy hS H
    refine And.intro (fun h => by rw [h] at hr; cases hr) (fun j hj => ?_)
    by_cases hji : j = i
    · subst hji
      exact hy.wpOp hi hS ⟨fun h => (by rw [hBi] at h; cases h), fun _ => ⟨hS, H⟩⟩
    · have h1 := H.2 j (ready_mono hj hji)
      obtain ⟨hjun, oj, hoj, hall⟩ := mem_ready.1 hj
      have hnot : ∀ e ∈ oj.after, Region.binds .any e = true → e.on ≠ i := fun e he hb heq => by
        have h1 := hall e he hb
        have h0 := (mem_ready.1 hr).1
        rw [heq] at h1
        rcases Nat.lt_or_ge i listed.size with h' | h'
        · simp [h'] at h0 h1; rw [h0] at h1; cases h1
        · simp [Array.getElem?_eq_none h'] at h1
      obtain ⟨hap, hBj⟩ := hfree j oj hoj hji hjun hnot
      have h2 := wpOp_putIf hoj hap (fun cs b => hsel i oi cs b hi) (fun cs b => hsel j oj cs b hoj) hQ hy h1
      refine wpOp_mono (fun a' w' h3 => ⟨fun h => (by rw [hBj] at h; cases h), fun _ => ?_⟩) h2
      obtain ⟨hS', H'⟩ := h3.2.2 hBj
      refine ⟨hS', ih (listed.setIfInBounds j true) a' w' (fun k ok hk hki hun hno => ?_) (ready_mono hr (Ne.symm hji)) h3.1 hS' ?_⟩
      · refine hfree k ok hk hki ?_ hno
        by_cases hjk : j = k
        · subst hjk; exact hjun
        · rw [getD_set_ne true hjk] at hun; exact hun
      · rw [Array.setIfInBounds_comm _ _ hji]; exact H'

/-- The side condition as one Bool. -/
def freeX (ops : Array Oper) (B : Nat → Bool) (listed : Array Bool) (i : Nat) : Bool :=
  match ops[i]? with
  | none => false
  | some oi => (!B i) && (Region.ready .any ops listed).contains i && (List.range ops.size).all fun j => j == i || listed.getD j true || match ops[j]? with
      | some oj => oj.after.any (fun e => Region.binds .any e && e.on == i) || (oi.apart ops oj && !B j)
      | none => true

theorem wpAnyX_take {i : Nat} {oi : Oper} {v : Value} {fuel : Nat} {listed : Array Bool} {a : Act} {w : World} (hi : ops[i]? = some oi) (hs : Region.noSelect ops = true) (hf : freeX ops B listed i = true)
    (hQ : ∀ c a w, Q (.panic c) (a.put oi.dst v) w → Q (.panic c) a w) (hy : YieldsIf P ops S oi v a) (hS : S w)
    (h : wpAnyX P ops Q S B fuel (listed.setIfInBounds i true) (a.put oi.dst v) w) : wpAnyX P ops Q S B (fuel + 1) listed a w := by
  simp only [freeX, hi, Bool.and_eq_true, Bool.not_eq_true', List.all_eq_true, List.mem_range] at hf
  obtain ⟨⟨hB, hr⟩, hall⟩ := hf
  refine wpAnyX_first hi (Region.noSelect_spec hs) hQ hB fuel listed a w (fun j oj hj hne hun hno => ?_) (by simpa using hr) hy hS h
  have h1 := hall j (Array.getElem?_eq_some_iff.1 hj).1
  simp only [hj, Bool.or_eq_true, beq_iff_eq, hne, false_or, hun, Bool.false_eq_true, Bool.and_eq_true, Bool.not_eq_true', Array.any_eq_true] at h1
  rcases h1 with ⟨k, hk, hb⟩ | h1
  · exact absurd hb.2 (hno _ (Array.getElem_mem hk) hb.1)
  · exact h1

/-- The one that may come up now: behind it S is shown. -/
theorem wpAnyX_one {j : Nat} {oj : Oper} {fuel : Nat} {listed : Array Bool} {a : Act} {w : World} (hj : ops[j]? = some oj) (hr : Region.ready .any ops listed = [j]) (hB : B j = false)
    (h : ∀ K : Act → World → Prop, Hid (∀ a' w', S w' → wpAnyX P ops Q S B fuel (listed.setIfInBounds j true) a' w' → K a' w') → wpList P ops (Exit.then K Q) [oj] a w) : wpAnyX P ops Q S B (fuel + 1) listed a w := by
  refine And.intro (fun e => by rw [hr] at e; cases e) (fun i hi => ?_)
  rw [hr] at hi
  obtain rfl : i = j := by simpa using hi
  have h1 := h (fun a' w' => S w' ∧ wpAnyX P ops Q S B fuel (listed.setIfInBounds i true) a' w') (fun _ _ hS hX => ⟨hS, hX⟩)
  unfold wpOp
  simp only [hj]
  unfold wpList at h1
  split
  · rename_i hw
    rw [if_pos hw] at h1
    rcases h1 with h1 | h1
    · refine .inl (wp_then (N := wpList P ops (Exit.then (fun a' w' => S w' ∧ wpAnyX P ops Q S B fuel (listed.setIfInBounds i true) a' w') Q) []) (fun a' w' hh => ⟨fun h => (by rw [hB] at h; cases h), fun _ => hh⟩) h1)
    · exact .inr h1
  · rename_i hw
    rw [if_neg hw] at h1
    exact ⟨fun h => (by rw [hB] at h; cases h), fun _ => h1⟩

/-- From here on each can come up alone: no S any more. -/
def forcedL (ops : Array Oper) : List Nat → Array Bool → Bool
  | [], listed => Region.ready .any ops listed == []
  | i :: is, listed => (Region.ready .any ops listed == [i]) && forcedL ops is (listed.setIfInBounds i true)

theorem wpAny_forcedL (K : Act → World → Prop) (hK : ∀ a w, K a w → Q .normal a w) (is : List Nat) : ∀ (l : List Oper) (listed : Array Bool) (a : Act) (w : World), l.length = is.length → (∀ (j i : Nat), is[j]? = some i → l[j]? = ops[i]?) →
    forcedL ops is listed = true → wpList P ops (Exit.then K Q) l a w → wpAny P .any ops Q is.length listed a w := by
  induction is with
  | nil =>
    intro l listed a w hlen _ hf h
    have : l = [] := List.length_eq_zero_iff.1 (by simpa using hlen)
    subst this
    simp only [forcedL, beq_iff_eq] at hf
    exact ⟨hf, hK _ _ h⟩
  | cons i is ih =>
    intro l listed a w hlen hl hf h
    cases l with
    | nil => simp at hlen
    | cons o l =>
      have h0 : ops[i]? = some o := by simpa using (hl 0 i rfl).symm
      simp only [forcedL, Bool.and_eq_true, beq_iff_eq] at hf
      obtain ⟨hr, hf'⟩ := hf
      rw [List.length_cons]
      refine And.intro (fun e => by rw [hr] at e; cases e) (fun j hj => ?_)
      rw [hr] at hj
      obtain rfl : j = i := by simpa using hj
      have ih' : ∀ a' w', wpList P ops (Exit.then K Q) l a' w' → wpAny P .any ops Q is.length (listed.setIfInBounds j true) a' w' := fun a' w' h' =>
        ih l _ a' w' (by simpa using hlen) (fun m n hm => by have := hl (m + 1) n (by simpa using hm); simpa using this) hf' h'
      unfold wpOp
      simp only [h0]
      unfold wpList at h
      split
      · rename_i hw
        rw [if_pos hw] at h
        rcases h with h | h
        · exact .inl (wp_then (K := K) ih' h)
        · exact .inr h
      · rename_i hw
        rw [if_neg hw] at h
        exact ih' _ _ h

theorem wpAnyX_end (is : List Nat) (l : List Oper) {listed : Array Bool} {a : Act} {w : World} (hlen : l.length = is.length) (hl : ∀ (j i : Nat), is[j]? = some i → l[j]? = ops[i]?) (hf : forcedL ops is listed = true) (hB : ∀ i, is[0]? = some i → B i = true)
    (h : ∀ K : Act → World → Prop, Hid (∀ a' w', Q .normal a' w' → K a' w') → wpList P ops (Exit.then K Q) l a w) : wpAnyX P ops Q S B is.length listed a w := by
  have h1 := wpAny_forcedL (Q := Q) (P := P) (fun a w => Q .normal a w) (fun _ _ h => h) is l listed a w hlen hl hf (h _ (fun _ _ h => h))
  cases is with
  | nil => exact h1
  | cons i is =>
    have hr : Region.ready .any ops listed = [i] := by
      simp only [forcedL, Bool.and_eq_true, beq_iff_eq] at hf; exact hf.1
    refine And.intro h1.1 (fun j hj => wpOp_mono (fun a' w' h' => ⟨fun _ => h', fun hh => ?_⟩) (h1.2 j hj))
    rw [hr] at hj
    obtain rfl : j = i := by simpa using hj
    rw [hB j rfl] at hh
    cases hh

theorem wp_region_X {id : Nat} {a : Act} {w : World} (S : World → Prop) (B : Nat → Bool) (hm : P.follows .mixedOrders = true) (h : wpAnyX P ops Q S B ops.size (Array.replicate ops.size false) a w.drew) : (Code.region id ops true).wp P Q a w :=
  wp_region_any hm (wpAny_of_X _ _ _ _ h)
end

end Go.Proofs.YtmghhakebhgckaaGreatDoor

namespace Go.Proofs.YtmghhakebhgckaaGreatDoor
set_option linter.unusedSimpArgs false
set_option linter.unusedVariables false
open Go.RowKit

/-- append(v, s...), v a row of the call's own: the row grows by the slice's elements. -/
theorem wpList_appAll {α : Type} {P : Program} {w : World} {ops : Array Oper} {rest : List Oper} {o : Oper} {a : Act} {Q : Exit → Act → World → Prop} (d x : Operand) (t e : TypeId) (z : Value) (k bytes : Nat)
    (hgd : o.guard = none) (ho : o.op = .call { callee := .builtin .append, args := #[d, x], argTypes := #[t, t] })
    (ht : P.underlying t = some (.slice e)) (hinfo : (P.info? e).map (fun i => (i.zero, i.size, i.bytes)) = some (some z, k, bytes)) (hzs : z.cells.size = k) (hsz : 0 < k) (hby : bytes ≤ 96)
    (enc : α → List Value) (hk : ∀ x, (enc x).length = k) (h1 : ∀ x, ∀ u ∈ enc x, u.oneCell' = true) (base : Nat) (v : Value) (m : List α) (hown : w.ownsRow base e k v m.length (m.flatMap enc)) (hv : base ≤ w.heap.size) (hd : a.eval d = v)
    (s : SV) (l : List α) (hs : SliceAt k (fun _ cs x => cs = enc x) w s l) (h0 : s.ok) (hx : a.eval x = .slice s.a s.len s.cap) (hl : m.length + l.length ≤ 1048576)
    (h : ∀ (v' : SV) (w' : World), w'.ownsRow base e k (.slice v'.a v'.len v'.cap) (m ++ l).length ((m ++ l).flatMap enc) → w.grownBy w' v.ownBlock → wpList P ops Q rest (a.put o.dst (.slice v'.a v'.len v'.cap)) w') : wpList P ops Q (o :: rest) a w := by
  obtain ⟨i, hi, hz0, hz1, hz2⟩ := info_parts hinfo
  refine wpList_plain hgd fun K hK => ?_
  obtain ⟨sa, sl, sc⟩ := s
  have hn := hs.1
  simp only at hn
  subst hn
  cases sa with
  | none =>
    obtain ⟨e0, e1⟩ := h0.nil rfl
    simp only at e0 e1
    have : l = [] := List.length_eq_zero_iff.1 e0
    subst this
    subst e1
    have hr := run_append_owned_none (P := P) w base t o.type e i k ht hi v m.length (m.flatMap enc) hown
    obtain ⟨s', hs', _⟩ := sliceAt_of_owns enc hk (l := m) hown rfl
    unfold Oper.wp execOp
    simp only [List.length_nil] at hx
    simp only [ho, resolve, invoke, builtin, Sem.run_bind, Sem.run_pure, Result.andThen_ok, List.map_toArray, List.map_cons, List.map_nil, hd, hx, hr]
    have := h s' w (by rw [List.append_nil, ← hs']; exact hown) (World.grownBy.refl _ _)
    rw [← hs'] at this
    exact hK _ _ this
  | some ad =>
    obtain ⟨v', w', hr, ho', hg, _⟩ := run_append_own (P := P) w base t o.type e i z k bytes ht hi hz0 hz1 hz2 hzs hsz v m.length (m.flatMap enc) hown ad l.length sc (l.flatMap enc) (flatMap_len hk l) (hs.row hk rfl)
      (fun u hu => let ⟨x, _, hx⟩ := List.mem_flatMap.1 hu; h1 x u hx) (by unfold maxLen; omega)
      (by have : (m.length + l.length) * bytes ≤ 1048576 * 96 := Nat.mul_le_mul (by omega) hby
          omega) hv
    rw [← List.flatMap_append, ← List.length_append] at ho'
    obtain ⟨s', rfl, _⟩ := sliceAt_of_owns enc hk ho' rfl
    unfold Oper.wp execOp
    simp only at hx
    simp only [ho, resolve, invoke, builtin, Sem.run_bind, Sem.run_pure, Result.andThen_ok, List.map_toArray, List.map_cons, List.map_nil, hd, hx, hr]
    exact hK _ _ (h s' w' ho' hg)
end Go.Proofs.YtmghhakebhgckaaGreatDoor

