/-
  For every three books, Books answers the same whichever of the two later ones is named first, and tells flaws just if it answers ErrConflict (promises P5.1 to P5.3: the statement MergeSides, its card). Every book, text and number that Go values can be is spoken of; the package variable is what the program's own text lays (the card's tie).
-/
import Derived.Test.YtblkgaoafejefaaDoorV3
namespace Go.Proofs.YtblkgaoafejefaaDoor
set_option linter.unusedSimpArgs false
set_option linter.unusedVariables false
open Go.ChangeShapes Go.WideShapes Go.ChangeAt Go.RowKit
open Go.ChangeMaps (open_string shut_string)

set_option maxRecDepth 100000 in
theorem mergeSides_wit (os : Os) {H : Type} (enc : TypeId × Value → H) :
    ∃ (w : World) (tape : Tape) (i : Input), w.os = os ∧ (w.forCall tape i).Shaped Tryd.checked.prog ∧ i.vars = [] ∧ Input.okWide Tryd.checked.prog (w.forCall tape i) .any w.heap.size 3 i ∧
      (OpenSpec.ofChange Rows.mergeSidesSpec).preRow enc Tryd.checked.prog Tryd.f3 Rows.mergeSidesRow.domain false Rows.mergeSidesRow.laid (w.forCall tape i).memory i.args ∧ ({ modest := false } : Assume).holds Tryd.checked.prog (lone (Frame.enter Tryd.checked.prog 3 i.args .normal) [] (w.forCall tape i)) := by
  refine witness_row_atRef (enc := enc) (C := Tryd.checked) false { World.holding Tryd.prog os noInput with heap := putCells (World.holding Tryd.prog os noInput).heap 0 (strRow wordsL) } #[.agg #[.slice none 0 0], .agg #[.slice none 0 0], .agg #[.slice none 0 0]] rfl (by kernel_rfl) (by kernel_rfl) (by kernel_rfl) ?_
  refine OpenSpec.preRow_of_cond 8 (x := ([.agg [.nil], .agg [.nil], .agg [.nil]], [], [])) (by kernel_rfl) (by kernel_rfl) (fun k hk => by cases hk) (by kernel_rfl) ?_
  exact laidMet_of_run' 8 (by kernel_rfl) (by kernel_rfl)

theorem mergeSides_params : ∀ t ∈ Tryd.f3.params.toList, Tryd.prog.readableRec t = true ∧ t < Tryd.prog.types.size := by
  rw [Tryd.params3]
  intro t ht
  have ht' : t = 24 := by simp at ht; omega
  rcases ht' with rfl
  exact ⟨by kernel_rfl, of_decide_eq_true (by kernel_rfl)⟩

set_option maxRecDepth 100000 in
theorem mergeSides_lifted (os : Os) (started : os.Started) (H : Type) (enc : TypeId × Value → H) (F : Stop.Interp) :
    ReturnsInHanded {} Tryd.checked os 3 .any ((OpenSpec.ofChange Rows.mergeSidesSpec).preRow enc Tryd.prog Tryd.f3 Rows.mergeSidesRow.domain false Rows.mergeSidesRow.laid) (((OpenSpec.ofChange Rows.mergeSidesSpec).at F).post enc Tryd.prog Tryd.f3 false true false false) := by
  refine returnsInHanded_of_row (C := Tryd.checked) (s := OpenSpec.ofChange Rows.mergeSidesSpec) ownKnobs started (by kernel_rfl) Tryd.func3 (mergeSides_wit os enc) ?_
  intro W base args ds gs before hval0 hW _ hcond _ hL _ _
  have hval : ∀ (j : Nat) t v, Tryd.f3.params[j]? = some t → args[j]? = some v → Value.okWide Tryd.prog W .any base t v := hval0
  have hW1 : DataW.Whole enc Tryd.prog Tryd.f3.params.toList Rows.mergeSidesSpec.vars false W args.toList ds gs before := hW
  have hL1 : WordsAt W := laid_of hL
  clear hL hW hval0 hcond
  have hW' := hW1
  obtain ⟨p, q, hA0, hV, rfl, hfz, hnd⟩ := hW1
  have hA : DataW.TrodAll enc Tryd.prog W 0 (fun _ => true) true Tryd.f3.params.toList args.toList ds p := hA0
  rw [Tryd.params3] at hA hval
  obtain ⟨v0, vs0, d0, ds0, p0, q0, hargs0, rfl, rfl, h0, r0⟩ := trodAll_cons hA
  obtain ⟨v1, vs1, d1, ds1, p1, q1, hargs1, rfl, rfl, h1, r1⟩ := trodAll_cons r0
  obtain ⟨v2, vs2, d2, ds2, p2, q2, hargs2, rfl, rfl, h2, r2⟩ := trodAll_cons r1
  obtain ⟨rfl, rfl, rfl⟩ := trodAll_nil r2
  subst hargs2 hargs1
  obtain rfl : args = #[v0, v1, v2] := by cases args; simp_all
  obtain ⟨rfl, rfl⟩ := trodVars_none hV
  obtain ⟨fuel0, hf0⟩ := h0
  obtain ⟨s0, ts0, hcs0, hbk0, hfit0⟩ := book_fits hf0
  obtain ⟨cs0, rfl, hsz0⟩ := okWide_struct Tryd.underlying24 (hval 0 24 v0 rfl rfl)
  have hv0 : cs0 = #[.slice s0.a s0.len s0.cap] := by
    have : cs0.toList = [.slice s0.a s0.len s0.cap] := by simpa [Value.cells] using hcs0
    rw [← Array.toList_inj, this]
  subst hv0
  obtain ⟨fuel1, hf1⟩ := h1
  obtain ⟨s1, ts1, hcs1, hbk1, hfit1⟩ := book_fits hf1
  obtain ⟨cs1, rfl, hsz1⟩ := okWide_struct Tryd.underlying24 (hval 1 24 v1 rfl rfl)
  have hv1 : cs1 = #[.slice s1.a s1.len s1.cap] := by
    have : cs1.toList = [.slice s1.a s1.len s1.cap] := by simpa [Value.cells] using hcs1
    rw [← Array.toList_inj, this]
  subst hv1
  obtain ⟨fuel2, hf2⟩ := h2
  obtain ⟨s2, ts2, hcs2, hbk2, hfit2⟩ := book_fits hf2
  obtain ⟨cs2, rfl, hsz2⟩ := okWide_struct Tryd.underlying24 (hval 2 24 v2 rfl rfl)
  have hv2 : cs2 = #[.slice s2.a s2.len s2.cap] := by
    have : cs2.toList = [.slice s2.a s2.len s2.cap] := by simpa [Value.cells] using hcs2
    rw [← Array.toList_inj, this]
  subst hv2
  clear hA0
  refine (mergeSides_calls s0 s1 s2 ts0 ts1 ts2  W hbk0 hbk1 hbk2 hL1 hfit0 hfit1 hfit2).mono fun e W' ⟨he, hb⟩ => ?_
  subst he
  exact ⟨_, rfl, post_true (s := Rows.mergeSidesSpec) laidOutAll hW' hb mergeSides_params rfl (by kernel_rfl) Tryd.underlying4 rfl rfl rfl⟩

theorem mergeSides_said : Rows.MergeSidesSaid :=
  OpenClaim.holds_of_cond 3 Tryd.f3 rfl rfl rfl rfl rfl rfl rfl ⟨rfl, rfl, rfl, rfl, rfl⟩ rfl rfl rfl rfl rfl (by kernel_rfl) Tryd.func3 (by kernel_rfl)
    (of_decide_eq_true (by kernel_rfl)) (by unfold Func.isWrapper; first | (rw [if_pos (by decide +kernel)]; kernel_rfl) | (rw [if_neg (by decide +kernel)]; exact ⟨rfl, rfl⟩))
    (fun os started H enc _ F => by rw [OpenClaim.pre_eq_preRow]; exact mergeSides_lifted os started H enc F)

theorem mergeSides_plain (f : FuncId) (fn : Func) (hf : Tryd.pinned.checked.prog.funcNamed Tryd.f3.name = some f) (hfn : Tryd.pinned.checked.prog.funcs[f]? = some fn) :
    false = Tryd.pinned.checked.prog.looks [] ∧ ∀ (j : Nat) t, fn.params[j]? = some t → Tryd.pinned.checked.prog.wantsStandIn t = false := by
  obtain rfl : f = 3 := Option.some.inj ((show Tryd.prog.funcNamed Tryd.f3.name = some 3 by kernel_rfl).symm.trans hf) |>.symm
  obtain rfl : fn = Tryd.f3 := (Option.some.inj (Tryd.func3.symm.trans hfn)).symm
  refine ⟨by kernel_rfl, fun j t ht => ?_⟩
  rw [Tryd.params3] at ht
  have ht0 := Array.mem_of_getElem? ht
  have ht' : t = 24 := by simp at ht0; omega
  rcases ht' with rfl
  exact (show Tryd.prog.wantsStandIn 24 = false by kernel_rfl)

theorem mergeSides_card : Rows.MergeSidesCardSaid :=
  Claim7.holds_tied_plain_at .later [] _ _ _ _ mergeSides_said (fun _ h => by cases h) (by kernel_rfl) (fun _ h => by cases h) mergeSides_row_tie rfl ⟨rfl, rfl⟩ (by kernel_rfl) rfl mergeSides_plain (by kernel_rfl)
#print axioms mergeSides_card
end Go.Proofs.YtblkgaoafejefaaDoor
