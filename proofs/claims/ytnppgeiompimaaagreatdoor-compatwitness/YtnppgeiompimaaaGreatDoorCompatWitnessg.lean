/-
  For every two books and name: where Flaws tells some, what Witness answers is written by the one book and refused by the other; there is no witness just if there is no flaw (promises P4.2, P4.3: the statement CompatWitness, its card). Every book and name that Go values can be is spoken of; the package variable is what the program's start lays.
-/
import Derived.Test.YtnppgeiompimaaaGreatDoorM52
namespace Go.Proofs.YtnppgeiompimaaaGreatDoor
set_option linter.unusedSimpArgs false
set_option linter.unusedVariables false
set_option linter.unusedSimpArgs false
set_option linter.unusedVariables false
open Go.ChangeShapes Go.WideShapes Go.ChangeAt Go.RowKit
open Go.ChangeMaps (open_string shut_string)

set_option maxRecDepth 100000 in
theorem compatWitness_wit (os : Os) {H : Type} (enc : TypeId × Value → H) :
    ∃ (w : World) (tape : Tape) (i : Input), w.os = os ∧ (w.forCall tape i).Shaped Tryz.checked.prog ∧ i.vars = [] ∧ Input.okWide Tryz.checked.prog (w.forCall tape i) .any w.heap.size 6 i ∧
      (OpenSpec.ofChange Rows.compatWitnessSpec).preRow enc Tryz.checked.prog Tryz.f6 Rows.compatWitnessRow.domain false Rows.compatWitnessRow.laid (w.forCall tape i).memory i.args ∧ ({ modest := false } : Assume).holds Tryz.checked.prog (lone (Frame.enter Tryz.checked.prog 6 i.args .normal) [] (w.forCall tape i)) := by
  refine witness_row_atRef (enc := enc) (C := Tryz.checked) false { World.holding Tryz.prog os noInput with heap := putCells (World.holding Tryz.prog os noInput).heap 0 (strRow wordsL) } #[.agg #[.slice none 0 0], .agg #[.slice none 0 0], .string ⟨#[]⟩] rfl (by kernel_rfl) (by kernel_rfl) (by kernel_rfl) ?_
  refine OpenSpec.preRow_of_cond 8 (x := ([.agg [.nil], .agg [.nil], .lit (.string [])], [], [])) (by kernel_rfl) (by kernel_rfl) (fun k hk => by cases hk) (by kernel_rfl) ?_
  exact laidMet_of_run' 8 (by kernel_rfl) (by kernel_rfl)

theorem compatWitness_params : ∀ t ∈ Tryz.f6.params.toList, Tryz.prog.readableRec t = true ∧ t < Tryz.prog.types.size := by
  rw [Tryz.params6]
  intro t ht
  have ht' : t = 24 ∨ t = 9 := by simpa using ht
  rcases ht' with rfl | rfl
  · exact ⟨by kernel_rfl, of_decide_eq_true (by kernel_rfl)⟩
  · exact ⟨by kernel_rfl, of_decide_eq_true (by kernel_rfl)⟩

set_option maxRecDepth 100000 in
theorem compatWitness_lifted (os : Os) (started : os.Started) (H : Type) (enc : TypeId × Value → H) (F : Stop.Interp) :
    ReturnsInHanded {} Tryz.checked os 6 .any ((OpenSpec.ofChange Rows.compatWitnessSpec).preRow enc Tryz.prog Tryz.f6 Rows.compatWitnessRow.domain false Rows.compatWitnessRow.laid) (((OpenSpec.ofChange Rows.compatWitnessSpec).at F).post enc Tryz.prog Tryz.f6 false true false false) := by
  refine returnsInHanded_of_row (C := Tryz.checked) (s := OpenSpec.ofChange Rows.compatWitnessSpec) ownKnobs started (by kernel_rfl) Tryz.func6 (compatWitness_wit os enc) ?_
  intro W base args ds gs before hval0 hW _ hcond _ hL _ _
  have hval : ∀ (j : Nat) t v, Tryz.f6.params[j]? = some t → args[j]? = some v → Value.okWide Tryz.prog W .any base t v := hval0
  have hW1 : DataW.Whole enc Tryz.prog Tryz.f6.params.toList Rows.compatWitnessSpec.vars false W args.toList ds gs before := hW
  have hL1 : WordsAt W := laid_of hL
  clear hL hW hval0 hcond
  have hW' := hW1
  obtain ⟨p, q, hA0, hV, rfl, hfz, hnd⟩ := hW1
  have hA : DataW.TrodAll enc Tryz.prog W 0 (fun _ => true) true Tryz.f6.params.toList args.toList ds p := hA0
  rw [Tryz.params6] at hA hval
  obtain ⟨v0, vs0, d0, ds0, p0, q0, hargs0, rfl, rfl, h0, r0⟩ := trodAll_cons hA
  obtain ⟨v1, vs1, d1, ds1, p1, q1, hargs1, rfl, rfl, h1, r1⟩ := trodAll_cons r0
  obtain ⟨v2, vs2, d2, ds2, p2, q2, hargs2, rfl, rfl, h2, r2⟩ := trodAll_cons r1
  obtain ⟨rfl, rfl, rfl⟩ := trodAll_nil r2
  subst hargs2 hargs1
  obtain rfl : args = #[v0, v1, v2] := by cases args; simp_all
  obtain ⟨rfl, rfl⟩ := trodVars_none hV
  obtain ⟨fuel0, hf0⟩ := h0
  obtain ⟨s0, ts0, hcs0, hbk0, hfit0⟩ := book_fits hf0
  obtain ⟨cs0, rfl, hsz0⟩ := okWide_struct Tryz.underlying24 (hval 0 24 v0 rfl rfl)
  have hv0 : cs0 = #[.slice s0.a s0.len s0.cap] := by
    have : cs0.toList = [.slice s0.a s0.len s0.cap] := by simpa [Value.cells] using hcs0
    rw [← Array.toList_inj, this]
  subst hv0
  obtain ⟨fuel1, hf1⟩ := h1
  obtain ⟨s1, ts1, hcs1, hbk1, hfit1⟩ := book_fits hf1
  obtain ⟨cs1, rfl, hsz1⟩ := okWide_struct Tryz.underlying24 (hval 1 24 v1 rfl rfl)
  have hv1 : cs1 = #[.slice s1.a s1.len s1.cap] := by
    have : cs1.toList = [.slice s1.a s1.len s1.cap] := by simpa [Value.cells] using hcs1
    rw [← Array.toList_inj, this]
  subst hv1
  obtain ⟨a1, rfl, rfl, rfl, z1⟩ := open_string Tryz.underlying9 (hval 2 9 v2 rfl rfl) h2
  clear hA0
  refine (compatWitness_calls s0 s1 ts0 ts1 a1 W hbk0 hbk1 hL1 hfit0 hfit1).mono fun e W' ⟨he, hb⟩ => ?_
  subst he
  exact ⟨_, rfl, post_true (s := Rows.compatWitnessSpec) laidOutAll hW' hb compatWitness_params rfl (by kernel_rfl) Tryz.underlying4 rfl rfl rfl⟩

theorem compatWitness_said : Rows.CompatWitnessSaid :=
  OpenClaim.holds_of_cond 6 Tryz.f6 rfl rfl rfl rfl rfl rfl rfl ⟨rfl, rfl, rfl, rfl, rfl⟩ rfl rfl rfl rfl rfl (by kernel_rfl) Tryz.func6 (by kernel_rfl)
    (of_decide_eq_true (by kernel_rfl)) (by unfold Func.isWrapper; first | (rw [if_pos (by decide +kernel)]; kernel_rfl) | (rw [if_neg (by decide +kernel)]; exact ⟨rfl, rfl⟩))
    (fun os started H enc _ F => by rw [OpenClaim.pre_eq_preRow]; exact compatWitness_lifted os started H enc F)

theorem compatWitness_plain (f : FuncId) (fn : Func) (hf : Tryz.pinned.checked.prog.funcNamed Tryz.f6.name = some f) (hfn : Tryz.pinned.checked.prog.funcs[f]? = some fn) :
    false = Tryz.pinned.checked.prog.looks [] ∧ ∀ (j : Nat) t, fn.params[j]? = some t → Tryz.pinned.checked.prog.wantsStandIn t = false := by
  obtain rfl : f = 6 := Option.some.inj ((show Tryz.prog.funcNamed Tryz.f6.name = some 6 by kernel_rfl).symm.trans hf) |>.symm
  obtain rfl : fn = Tryz.f6 := (Option.some.inj (Tryz.func6.symm.trans hfn)).symm
  refine ⟨by kernel_rfl, fun j t ht => ?_⟩
  rw [Tryz.params6] at ht
  have ht' : t = 24 ∨ t = 9 := by simpa using Array.mem_of_getElem? ht
  rcases ht' with rfl | rfl
  · exact (show Tryz.prog.wantsStandIn 24 = false by kernel_rfl)
  · exact (show Tryz.prog.wantsStandIn 9 = false by kernel_rfl)

theorem compatWitness_card : Rows.CompatWitnessCardSaid :=
  Claim7.holds_tied_plain_at .later [] _ _ _ _ compatWitness_said (fun _ h => by cases h) (by kernel_rfl) (fun _ h => by cases h) compatWitness_row_tie rfl ⟨rfl, rfl⟩ (by kernel_rfl) rfl compatWitness_plain (by kernel_rfl)
#print axioms compatWitness_card
end Go.Proofs.YtnppgeiompimaaaGreatDoor

