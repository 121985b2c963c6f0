import Derived.Test.YtblkgaoafejefaaDoorW1
namespace Go.Proofs.YtblkgaoafejefaaDoor
set_option linter.unusedSimpArgs false
set_option linter.unusedVariables false
open Go.RowKit

def letterB (c : UInt8) : Bool := decide (97 ≤ (c.toNat : Int)) && decide ((c.toNat : Int) ≤ 122)
def wordsL : List (List UInt8) := [[98, 111, 111, 108], [101, 110, 117, 109], [103, 111, 110, 101], [105, 110, 116], [109, 97, 110, 121], [109, 97, 121, 98, 101], [109, 101, 115, 115, 97, 103, 101], [111, 110, 101], [116, 101, 120, 116]]
def namedL (l : List UInt8) : Bool := decide (1 ≤ l.length) && decide (l.length ≤ 12) && l.all letterB && !wordsL.contains l

/-- The nine words lie where the program's text lays them. -/
def WordsAt (w : World) : Prop := w.rangeAt 0 0 (wordsL.map fun l => .string ⟨l.toArray⟩)
theorem WordsAt.ext {w w' : World} (h : WordsAt w) (he : Ext w w') : WordsAt w' := he.range h

theorem NoneTo.any {α : Type} {p : α → Bool} {l : List α} {k : Nat} (h : NoneTo p l k) (hk : l.length ≤ k) : l.any p = false := by
  have := NoneTo.none h hk
  rw [List.find?_eq_none] at this
  exact List.any_eq_false.2 this

set_option maxHeartbeats 400000 in
theorem isLetter_any (c : UInt8) (w : World) : Calls Tryd.prog 52 #[.int .u8 c.toNat] w fun e w' => e = .returned (.bool (letterB c)) ∧ w' = w := by
  unfold letterB
  go_enter Tryd.func52, Tryd.ntmps52
  go_wp2
  all_goals
    go_ret
    rename_i h
    exact ⟨by simp [h]; try omega, rfl⟩

def fieldM (t : TypeM) (id : Int) : Option FieldM := t.fields.find? fun f => f.id == id
def FieldM.zero : FieldM := ⟨0, ⟨#[]⟩, ⟨#[]⟩, 0, 0⟩

set_option maxHeartbeats 400000 in
theorem fieldOf_any (tv : TV) (t : TypeM) (n : Int) (w : World) (ht : TypeAt w tv t) (hn : t.fields.length ≤ 9223372036854775807) :
    Calls Tryd.prog 20 #[.agg #[.string tv.name, .bool tv.enum, .slice tv.fields.a tv.fields.len tv.fields.cap, .slice tv.gone.a tv.gone.len tv.gone.cap, .slice tv.items.a tv.items.len tv.items.cap], .int .i64 n] w fun e w' => e = .returned (.tuple #[.agg ((fieldM t n).getD FieldM.zero).cells.toArray, .bool (fieldM t n).isSome]) ∧ Ext w w' := by
  obtain ⟨name, enum, fs, gs, is⟩ := tv
  obtain ⟨b', n', c'⟩ := fs
  obtain ⟨hl, hts⟩ := ht.fields
  simp only at hl
  subst hl
  show Calls Tryd.prog 20 #[.agg #[.string name, .bool enum, .slice b' t.fields.length c', .slice gs.a gs.len gs.cap, .slice is.a is.len is.cap], .int .i64 n] w _
  go_enter Tryd.func20, Tryd.ntmps20
  go_wp2
  go_loopw [11] (fun i wr => ∃ k : Nat, k ≤ t.fields.length ∧ i = .int .i64 k ∧ NoneTo (fun i : FieldM => i.id == n) t.fields k ∧ Ext ((w.alloc (Obj.cells #[.string name, .bool enum, .slice b' t.fields.length c', .slice gs.a gs.len gs.cap, .slice is.a is.len is.cap] 46)).alloc (Obj.cells #[.int .i64 0, .string ⟨#[]⟩, .string ⟨#[]⟩, .int .i64 0, .int .i64 0] 36)) wr) (fun i wr => t.fields.length - (intOf i).toNat)
  case atStart => exact ⟨0, by omega, rfl, NoneTo.zero _ _, Below.refl _ _⟩
  case round =>
    obtain ⟨k, hk, rfl, hne, hx⟩ := hrel
    have hE : Ext w wr := (((Ext.refl w).alloc _).alloc _).trans hx
    obtain ⟨hq, hf⟩ := hx.whole (heap_alloc2_new _ _ _)
    have q0 := hq 0 (.int .i64 0) rfl
    have q1 := hq 1 (.string ⟨#[]⟩) rfl
    have q2 := hq 2 (.string ⟨#[]⟩) rfl
    have q3 := hq 3 (.int .i64 0) rfl
    have q4 := hq 4 (.int .i64 0) rfl
    have hz : w.heap.size + 1 < wr.heap.size := by have := hx.size; simp at this; omega
    clear hq
    by_cases hlt : k < t.fields.length
    · obtain ⟨b, o, cs, rfl, hr, rfl⟩ := hts k t.fields[k] (by simp [hlt])
      obtain ⟨h0, h1, h2, h3, h4⟩ := range5 (hE.range hr)
      have Hk : Hid (t.fields[k]? = some t.fields[k]) := by simp [Hid, hlt]
      clear hts hr
      go_wp2
      · rename_i hname
        have e : fieldM t n = some t.fields[k] := NoneTo.some hne Hk.out hname
        refine bodyPost_ret (v := .tuple #[.agg t.fields[k].cells.toArray, .bool true]) (by simp [results, Tryd.results20, go_sem, hz, q0, q1, q2, q3, q4]) rfl ⟨by rw [e]; rfl, ?_⟩
        exact (((((hE.setCell (by simp) _).setCell (by simp) _).setCell (by simp) _).setCell (by simp) _).setCell (by simp) _).alloc _
      · rename_i hname
        exact ⟨⟨k + 1, by omega, by go_num, NoneTo.succ hne Hk.out hname, hx.alloc _⟩, by simp [intOf]; omega⟩
    · go_wp2
      have e : fieldM t n = none := NoneTo.none hne (by omega)
      refine bodyPost_ret (v := .tuple #[.agg FieldM.zero.cells.toArray, .bool false]) (by simp [results, Tryd.results20, go_sem, q0, q1, q2, q3, q4, FieldM.zero]) rfl ⟨by rw [e]; rfl, ?_⟩
      exact (((((hE.setCell (by simp) _).setCell (by simp) _).setCell (by simp) _).setCell (by simp) _).setCell (by simp) _)
end Go.Proofs.YtblkgaoafejefaaDoor
