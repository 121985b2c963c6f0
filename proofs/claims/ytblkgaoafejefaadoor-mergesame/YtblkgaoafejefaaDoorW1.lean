import Derived.Test.YtblkgaoafejefaaDoorBase
import Derived.Test.YtblkgaoafejefaaDoorProg
namespace Go.Proofs.YtblkgaoafejefaaDoor
set_option linter.unusedSimpArgs false
set_option linter.unusedVariables false
open Go.RowKit

def TypeM.zero : TypeM := ⟨⟨#[]⟩, false, [], [], []⟩
def findM (ts : BookM) (name : ByteArray) : Option TypeM := ts.find? fun t => t.name.toList == name.toList

theorem zeroTypeAt (w : World) : TypeAt w ⟨⟨#[]⟩, false, ⟨none, 0, 0⟩, ⟨none, 0, 0⟩, ⟨none, 0, 0⟩⟩ TypeM.zero :=
  ⟨rfl, rfl, ⟨rfl, fun _ _ h => by simp [TypeM.zero] at h⟩, ⟨rfl, fun _ _ h => by simp [TypeM.zero] at h⟩, ⟨rfl, fun _ _ h => by simp [TypeM.zero] at h⟩, ⟨by simp, by simp⟩, ⟨by simp, by simp⟩, ⟨by simp, by simp⟩⟩

/-- None ahead of place k. -/
def NoneTo {α : Type} (p : α → Bool) (l : List α) (k : Nat) : Prop := ∀ j x, j < k → l[j]? = some x → p x = false
theorem NoneTo.zero {α : Type} (p : α → Bool) (l : List α) : NoneTo p l 0 := fun _ _ h => by omega
theorem NoneTo.succ {α : Type} {p : α → Bool} {l : List α} {k : Nat} (h : NoneTo p l k) {x : α} (hx : l[k]? = some x) (hp : p x = false) : NoneTo p l (k + 1) := fun j y hj hy => by
  by_cases e : j = k
  · subst e; rw [hx] at hy; cases hy; exact hp
  · exact h j y (by omega) hy
theorem NoneTo.none {α : Type} {p : α → Bool} {l : List α} {k : Nat} (h : NoneTo p l k) (hk : l.length ≤ k) : l.find? p = none := by
  rw [List.find?_eq_none]
  intro x hx
  obtain ⟨j, hj, rfl⟩ := List.getElem_of_mem hx
  simp [h j l[j] (by omega) (by simp [hj])]
theorem NoneTo.some {α : Type} {p : α → Bool} {l : List α} {k : Nat} (h : NoneTo p l k) {x : α} (hx : l[k]? = some x) (hp : p x = true) : l.find? p = some x := by
  have hk := (List.getElem?_eq_some_iff.1 hx).1
  have e := (List.getElem?_eq_some_iff.1 hx).2
  rw [List.find?_eq_some_iff_getElem]
  refine ⟨hp, k, hk, e, fun j hj => ?_⟩
  simp [h j l[j] hj (by simp [Nat.lt_trans hj hk])]

set_option maxHeartbeats 400000 in
theorem lookUp_any (s : SV) (ts : BookM) (name : ByteArray) (w : World) (hs : BookAt w s ts) (hn : ts.length ≤ 9223372036854775807) :
   Calls Tryd.prog 36 #[.agg #[.slice s.a s.len s.cap], .string name] w fun e w' => ∃ tv : TV, e = .returned (.tuple #[.agg #[.string tv.name, .bool tv.enum, .slice tv.fields.a tv.fields.len tv.fields.cap, .slice tv.gone.a tv.gone.len tv.gone.cap, .slice tv.items.a tv.items.len tv.items.cap], .bool (findM ts name).isSome]) ∧ TypeAt w tv ((findM ts name).getD TypeM.zero) ∧ Ext w w' := by
  obtain ⟨a, n, cap⟩ := s
  obtain ⟨hl, hts⟩ := hs
  simp only at hl
  subst hl
  show Calls Tryd.prog 36 #[.agg #[.slice a ts.length cap], .string name] w _
  go_enter Tryd.func36, Tryd.ntmps36
  go_wp2
  go_loopw [11] (fun i wr => ∃ k : Nat, k ≤ ts.length ∧ i = .int .i64 k ∧ NoneTo (fun t : TypeM => t.name.toList == name.toList) ts k ∧ Ext ((w.alloc (Obj.cells #[Value.slice a ts.length cap] 24)).alloc (Obj.cells #[Value.string { data := #[] }, Value.bool false, Value.slice none 0 0, Value.slice none 0 0, Value.slice none 0 0] 46)) wr) (fun i wr => ts.length - (intOf i).toNat)
  case atStart => exact ⟨0, by omega, rfl, NoneTo.zero _ _, Below.refl _ _⟩
  case round =>
    obtain ⟨k, hk, rfl, hne, hx⟩ := hrel
    have hE : Ext w wr := (((Ext.refl w).alloc _).alloc _).trans hx
    obtain ⟨hq, hf⟩ := hx.whole (heap_alloc2_new _ _ _)
    have q0 := hq 0 (.string ⟨#[]⟩) rfl
    have q1 := hq 1 (.bool false) rfl
    have q2 := hq 2 (.slice none 0 0) rfl
    have q3 := hq 3 (.slice none 0 0) rfl
    have q4 := hq 4 (.slice none 0 0) rfl
    have hz : w.heap.size + 1 < wr.heap.size := by have := hx.size; simp at this; omega
    clear hq
    by_cases hlt : k < ts.length
    · obtain ⟨b, o, cs, rfl, hr, tv, rfl, htv⟩ := hts k ts[k] (by simp [hlt])
      obtain ⟨h0, h1, h2, h3, h4⟩ := range5 (hE.range hr)
      have Htv : Hid (TypeAt w tv ts[k]) := htv
      have Hk : Hid (ts[k]? = some ts[k]) := by simp [Hid, hlt]
      clear hts hr htv
      go_wp2
      · rename_i hname
        have e : findM ts name = some ts[k] := NoneTo.some hne Hk.out (by rw [← Htv.out.name]; exact hname)
        refine bodyPost_ret (v := .tuple #[.agg tv.cells.toArray, .bool true]) (by simp [results, Tryd.results36, go_sem, hz, q0, q1, q2, q3, q4]) rfl ⟨tv, by rw [e]; rfl, by rw [e]; exact Htv.out, ?_⟩
        exact (((((hE.setCell (by simp) _).setCell (by simp) _).setCell (by simp) _).setCell (by simp) _).setCell (by simp) _).alloc _
      · rename_i hname
        exact ⟨⟨k + 1, by omega, by go_num, NoneTo.succ hne Hk.out (by rw [← Htv.out.name]; exact hname), hx.alloc _⟩, by simp [intOf]; omega⟩
    · go_wp2
      have e : findM ts name = none := NoneTo.none hne (by omega)
      refine bodyPost_ret (v := .tuple #[.agg #[.string ⟨#[]⟩, .bool false, .slice none 0 0, .slice none 0 0, .slice none 0 0], .bool false]) (by simp [results, Tryd.results36, go_sem, q0, q1, q2, q3, q4]) rfl ⟨⟨⟨#[]⟩, false, ⟨none, 0, 0⟩, ⟨none, 0, 0⟩, ⟨none, 0, 0⟩⟩, by rw [e]; rfl, by rw [e]; exact zeroTypeAt w, ?_⟩
      exact (((((hE.setCell (by simp) _).setCell (by simp) _).setCell (by simp) _).setCell (by simp) _).setCell (by simp) _)
end Go.Proofs.YtblkgaoafejefaaDoor
