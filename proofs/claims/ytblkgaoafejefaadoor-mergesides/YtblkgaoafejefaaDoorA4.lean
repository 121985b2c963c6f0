import Derived.Test.YtblkgaoafejefaaDoorA3
import Derived.Test.YtblkgaoafejefaaDoorReg4
import Derived.Deep.DeepCutAuto
namespace Go.Proofs.YtblkgaoafejefaaDoor
set_option linter.unusedSimpArgs false
set_option linter.unusedVariables false
open Go.RowKit

/-- Three types of a name, as the struct bears them: sixteen cells. -/
structure SixV where
  name : ByteArray
  was : TV
  a : TV
  b : TV
abbrev SixV.cells (x : SixV) : List Value := .string x.name :: (x.was.cells ++ x.a.cells ++ x.b.cells)
structure SixAt (w : World) (x : SixV) (name : ByteArray) (s : TS) : Prop where
  name : x.name = name
  was : TypeAt w x.was s.was
  a : TypeAt w x.a s.a
  b : TypeAt w x.b s.b
theorem SixAt.ext {w w' : World} {x : SixV} {name : ByteArray} {s : TS} (h : SixAt w x name s) (he : Ext w w') : SixAt w' x name s := ⟨h.name, h.was.ext he, h.a.ext he, h.b.ext he⟩

set_option maxHeartbeats 1600000 in
theorem flaw_any (nm : ByteArray) (c1 c2 c3 c4 c5 c6 c7 c8 c9 c10 c11 c12 c13 c14 c15 : Value) (n : Int) (w : World)
    (h1 : [c1, c2, c3, c4, c5, c6, c7, c8, c9, c10, c11, c12, c13, c14, c15].all (fun v => v.oneCell') = true) :
    Calls Tryd.prog 26 #[.agg #[.string nm, c1, c2, c3, c4, c5, c6, c7, c8, c9, c10, c11, c12, c13, c14, c15], .int .i64 n] w fun e w' => e = .returned (.agg #[.string nm, .int .i64 n, .int .i64 0]) ∧ Ext w w' := by
  have hx : ∀ o1 o2 : Obj, Ext w ((w.alloc o1).alloc o2) := fun _ _ => ((Ext.refl w).alloc _).alloc _
  go_enter Tryd.func26, Tryd.ntmps26
  go_wp2
  exact bodyPost_ret (v := .agg #[.string nm, .int .i64 n, .int .i64 0]) (by simp [results, Tryd.results26, go_sem]) rfl ⟨rfl, hx _ _⟩
end Go.Proofs.YtblkgaoafejefaaDoor
