/-
  For every two good books, whoever changes nothing is not in the way, and who has changed the same neither (promises P5.1 to P5.3: the statement MergeSame, its card). Every book, text and number that Go values can be is spoken of; the package variable is what the program's own text lays (the card's tie).
-/
import Derived.Test.YtblkgaoafejefaaDoorV3
namespace Go.Proofs.YtblkgaoafejefaaDoor
set_option linter.unusedSimpArgs false
set_option linter.unusedVariables false
open Go.ChangeShapes Go.WideShapes Go.ChangeAt Go.RowKit
open Go.ChangeMaps (open_string shut_string)

set_option maxRecDepth 100000 in
theorem mergeSame_wit (os : Os) {H : Type} (enc : TypeId × Value → H) :
    ∃ (w : World) (tape : Tape) (i : Input), w.os = os ∧ (w.forCall tape i).Shaped Tryd.checked.prog ∧ i.vars = [] ∧ Input.okWide Tryd.checked.prog (w.forCall tape i) .any w.heap.size 4 i ∧
      (OpenSpec.ofChange Rows.mergeSameSpec).preRow enc Tryd.checked.prog Tryd.f4 Rows.mergeSameRow.domain false Rows.mergeSameRow.laid (w.forCall tape i).memory i.args ∧ ({ modest := false } : Assume).holds Tryd.checked.prog (lone (Frame.enter Tryd.checked.prog 4 i.args .normal) [] (w.forCall tape i)) := by
  refine witness_row_atRef (enc := enc) (C := Tryd.checked) false { World.holding Tryd.prog os noInput with heap := putCells (World.holding Tryd.prog os noInput).heap 0 (strRow wordsL) } #[.agg #[.slice none 0 0], .agg #[.slice none 0 0]] rfl (by kernel_rfl) (by kernel_rfl) (by kernel_rfl) ?_
  refine OpenSpec.preRow_of_cond 8 (x := ([.agg [.nil], .agg [.nil]], [], [])) (by kernel_rfl) (by kernel_rfl) (fun k hk => by cases hk) (by kernel_rfl) ?_
  exact laidMet_of_run' 8 (by kernel_rfl) (by kernel_rfl)

theorem mergeSame_params : ∀ t ∈ Tryd.f4.params.toList, Tryd.prog.readableRec t = true ∧ t < Tryd.prog.types.size := by
  rw [Tryd.params4]
  intro t ht
  have ht' : t = 24 := by simp at ht; omega
  rcases ht' with rfl
  exact ⟨by kernel_rfl, of_decide_eq_true (by kernel_rfl)⟩

set_option maxRecDepth 100000 in
theorem mergeSame_lifted (os : Os) (started : os.Started) (H : Type) (enc : TypeId × Value → H) (F : Stop.Interp) :
    ReturnsInHanded {} Tryd.checked os 4 .any ((OpenSpec.ofChange Rows.mergeSameSpec).preRow enc Tryd.prog Tryd.f4 Rows.mergeSameRow.domain false Rows.mergeSameRow.laid) (((OpenSpec.ofChange Rows.mergeSameSpec).at F).post enc Tryd.prog Tryd.f4 false true false false) := by
  refine returnsInHanded_of_row (C := Tryd.checked) (s := OpenSpec.ofChange Rows.mergeSameSpec) ownKnobs started (by kernel_rfl) Tryd.func4 (mergeSame_wit os enc) ?_
  intro W base args ds gs before hval0 hW _ hcond _ hL _ _
  have hval : ∀ (j : Nat) t v, Tryd.f4.params[j]? = some t → args[j]? = some v → Value.okWide Tryd.prog W .any base t v := hval0
  have hW1 : DataW.Whole enc Tryd.prog Tryd.f4.params.toList Rows.mergeSameSpec.vars false W args.toList ds gs before := hW
  have hL1 : WordsAt W := laid_of hL
  clear hL hW hval0 hcond
  have hW' := hW1
  obtain ⟨p, q, hA0, hV, rfl, hfz, hnd⟩ := hW1
  have hA : DataW.TrodAll enc Tryd.prog W 0 (fun _ => true) true Tryd.f4.params.toList args.toList ds p := hA0
  rw [Tryd.params4] at hA hval
  obtain ⟨v0, vs0, d0, ds0, p0, q0, hargs0, rfl, rfl, h0, r0⟩ := trodAll_cons hA
  obtain ⟨v1, vs1, d1, ds1, p1, q1, hargs1, rfl, rfl, h1, r1⟩ := trodAll_cons r0
  obtain ⟨rfl, rfl, rfl⟩ := trodAll_nil r1
  subst hargs1
  obtain rfl : args = #[v0, v1] := by cases args; simp_all
  obtain ⟨rfl, rfl⟩ := trodVars_none hV
  obtain ⟨fuel0, hf0⟩ := h0
  obtain ⟨s0, ts0, hcs0, hbk0, hfit0⟩ := book_fits hf0
  obtain ⟨cs0, rfl, hsz0⟩ := okWide_struct Tryd.underlying24 (hval 0 24 v0 rfl rfl)
  have hv0 : cs0 = #[.slice s0.a s0.len s0.cap] := by
    have : cs0.toList = [.slice s0.a s0.len s0.cap] := by simpa [Value.cells] using hcs0
    rw [← Array.toList_inj, this]
  subst hv0
  obtain ⟨fuel1, hf1⟩ := h1
  obtain ⟨s1, ts1, hcs1, hbk1, hfit1⟩ := book_fits hf1
  obtain ⟨cs1, rfl, hsz1⟩ := okWide_struct Tryd.underlying24 (hval 1 24 v1 rfl rfl)
  have hv1 : cs1 = #[.slice s1.a s1.len s1.cap] := by
    have : cs1.toList = [.slice s1.a s1.len s1.cap] := by simpa [Value.cells] using hcs1
    rw [← Array.toList_inj, this]
  subst hv1
  clear hA0
  refine (mergeSame_calls s0 s1 ts0 ts1  W hbk0 hbk1 hL1 hfit0 hfit1).mono fun e W' ⟨he, hb⟩ => ?_
  subst he
  exact ⟨_, rfl, post_true (s := Rows.mergeSameSpec) laidOutAll hW' hb mergeSame_params rfl (by kernel_rfl) Tryd.underlying4 rfl rfl rfl⟩

theorem mergeSame_said : Rows.MergeSameSaid :=
  OpenClaim.holds_of_cond 4 Tryd.f4 rfl rfl rfl rfl rfl rfl rfl ⟨rfl, rfl, rfl, rfl, rfl⟩ rfl rfl rfl rfl rfl (by kernel_rfl) Tryd.func4 (by kernel_rfl)
    (of_decide_eq_true (by kernel_rfl)) (by unfold Func.isWrapper; first | (rw [if_pos (by decide +kernel)]; kernel_rfl) | (rw [if_neg (by decide +kernel)]; exact ⟨rfl, rfl⟩))
    (fun os started H enc _ F => by rw [OpenClaim.pre_eq_preRow]; exact mergeSame_lifted os started H enc F)

theorem mergeSame_plain (f : FuncId) (fn : Func) (hf : Tryd.pinned.checked.prog.funcNamed Tryd.f4.name = some f) (hfn : Tryd.pinned.checked.prog.funcs[f]? = some fn) :
    false = Tryd.pinned.checked.prog.looks [] ∧ ∀ (j : Nat) t, fn.params[j]? = some t → Tryd.pinned.checked.prog.wantsStandIn t = false := by
  obtain rfl : f = 4 := Option.some.inj ((show Tryd.prog.funcNamed Tryd.f4.name = some 4 by kernel_rfl).symm.trans hf) |>.symm
  obtain rfl : fn = Tryd.f4 := (Option.some.inj (Tryd.func4.symm.trans hfn)).symm
  refine ⟨by kernel_rfl, fun j t ht => ?_⟩
  rw [Tryd.params4] at ht
  have ht0 := Array.mem_of_getElem? ht
  have ht' : t = 24 := by simp at ht0; omega
  rcases ht' with rfl
  exact (show Tryd.prog.wantsStandIn 24 = false by kernel_rfl)

theorem mergeSame_card : Rows.MergeSameCardSaid :=
  Claim7.holds_tied_plain_at .later [] _ _ _ _ mergeSame_said (fun _ h => by cases h) (by kernel_rfl) (fun _ h => by cases h) mergeSame_row_tie rfl ⟨rfl, rfl⟩ (by kernel_rfl) rfl mergeSame_plain (by kernel_rfl)
#print axioms mergeSame_card
end Go.Proofs.YtblkgaoafejefaaDoor
