/-
  For every book, name and value: Flaws tells none of a book against itself, and Project makes of a value of the type just that value (promises P4.2, P4.4: the statement CompatSelf, the second form's card). Condition: the arguments, and the package variables that the reading takes, are together of bulk at most 1048576 (uptoSmall of the given text). The package variable is what the program's start lays.
-/
import Derived.Test.YtnppgeiompimaaaDoorM49
namespace Go.Proofs.YtnppgeiompimaaaDoor
set_option linter.unusedSimpArgs false
set_option linter.unusedVariables false
set_option linter.unusedSimpArgs false
set_option linter.unusedVariables false
open Go.ChangeShapes Go.WideShapes Go.ChangeAt Go.RowKit
open Go.ChangeMaps (open_string shut_string)

set_option maxRecDepth 100000 in
theorem compatSelf_wit (os : Os) {H : Type} (enc : TypeId × Value → H) :
    ∃ (w : World) (tape : Tape) (i : Input), w.os = os ∧ (w.forCall tape i).Shaped Tryd.checked.prog ∧ i.vars = [] ∧ Input.okWide Tryd.checked.prog (w.forCall tape i) .any w.heap.size 3 i ∧
      (Rows.OpenSpec.upto Rows.compatSelfSpec).preRow enc Tryd.checked.prog Tryd.f3 Rows.compatSelfUptoRow.domain false Rows.compatSelfUptoRow.laid (w.forCall tape i).memory i.args ∧ ({ modest := false } : Assume).holds Tryd.checked.prog (lone (Frame.enter Tryd.checked.prog 3 i.args .normal) [] (w.forCall tape i)) := by
  refine witness_row_atRef (enc := enc) (C := Tryd.checked) false { World.holding Tryd.prog os noInput with heap := putCells (World.holding Tryd.prog os noInput).heap 0 (strRow wordsL) } #[.agg #[.slice none 0 0], .string ⟨#[]⟩, .agg #[.int .i64 0, .int .i64 0, .string ⟨#[]⟩, .slice none 0 0, .slice none 0 0]] rfl (by kernel_rfl) (by kernel_rfl) (by kernel_rfl) ?_
  refine OpenSpec.preRow_of_cond 8 (x := ([.agg [.nil], .lit (.string []), .agg [.lit (.int .i64 0), .lit (.int .i64 0), .lit (.string []), .nil, .nil]], [], [])) (by kernel_rfl) (by kernel_rfl) (fun k hk => by cases hk; kernel_rfl) (by kernel_rfl) ?_
  exact laidMet_of_run' 8 (by kernel_rfl) (by kernel_rfl)

theorem compatSelf_params : ∀ t ∈ Tryd.f3.params.toList, Tryd.prog.readableRec t = true ∧ t < Tryd.prog.types.size := by
  rw [Tryd.params3]
  intro t ht
  have ht' : t = 24 ∨ t = 9 ∨ t = 28 := by simpa using ht
  rcases ht' with rfl | rfl | rfl
  · exact ⟨by kernel_rfl, of_decide_eq_true (by kernel_rfl)⟩
  · exact ⟨by kernel_rfl, of_decide_eq_true (by kernel_rfl)⟩
  · exact ⟨by kernel_rfl, of_decide_eq_true (by kernel_rfl)⟩

set_option maxRecDepth 100000 in
theorem compatSelf_lifted (os : Os) (started : os.Started) (H : Type) (enc : TypeId × Value → H) (F : Stop.Interp) :
    ReturnsInHanded {} Tryd.checked os 3 .any ((Rows.OpenSpec.upto Rows.compatSelfSpec).preRow enc Tryd.prog Tryd.f3 Rows.compatSelfUptoRow.domain false Rows.compatSelfUptoRow.laid) (((Rows.OpenSpec.upto Rows.compatSelfSpec).at F).post enc Tryd.prog Tryd.f3 false true false false) := by
  refine returnsInHanded_of_row (C := Tryd.checked) (s := Rows.OpenSpec.upto Rows.compatSelfSpec) ownKnobs started (by kernel_rfl) Tryd.func3 (compatSelf_wit os enc) ?_
  intro W base args ds gs before hval0 hW _ hcond _ hL _ _
  have hval : ∀ (j : Nat) t v, Tryd.f3.params[j]? = some t → args[j]? = some v → Value.okWide Tryd.prog W .any base t v := hval0
  have hW1 : DataW.Whole enc Tryd.prog Tryd.f3.params.toList Rows.compatSelfSpec.vars false W args.toList ds gs before := hW
  have hk : Rows.uptoSmall H (ds ++ gs) = true := hcond _ rfl
  have hL1 : WordsAt W := laid_of hL
  clear hL hW hval0 hcond
  have hW' := hW1
  obtain ⟨p, q, hA0, hV, rfl, hfz, hnd⟩ := hW1
  have hA : DataW.TrodAll enc Tryd.prog W 0 (fun _ => true) true Tryd.f3.params.toList args.toList ds p := hA0
  rw [Tryd.params3] at hA hval
  obtain ⟨v0, vs0, d0, ds0, p0, q0, hargs0, rfl, rfl, h0, r0⟩ := trodAll_cons hA
  obtain ⟨v1, vs1, d1, ds1, p1, q1, hargs1, rfl, rfl, h1, r1⟩ := trodAll_cons r0
  obtain ⟨v2, vs2, d2, ds2, p2, q2, hargs2, rfl, rfl, h2, r2⟩ := trodAll_cons r1
  obtain ⟨rfl, rfl, rfl⟩ := trodAll_nil r2
  subst hargs2 hargs1
  obtain rfl : args = #[v0, v1, v2] := by cases args; simp_all
  obtain ⟨rfl, rfl⟩ := trodVars_none hV
  obtain ⟨fuel, hf⟩ := h0
  obtain ⟨s, ts, hcs, hbk, hfit⟩ := book_fits hf
  obtain ⟨cs1, rfl, hsz1⟩ := okWide_struct Tryd.underlying24 (hval 0 24 v0 rfl rfl)
  have hv : cs1 = #[.slice s.a s.len s.cap] := by
    have : cs1.toList = [.slice s.a s.len s.cap] := by simpa [Value.cells] using hcs
    rw [← Array.toList_inj, this]
  subst hv
  obtain ⟨a1, rfl, rfl, rfl, z1⟩ := open_string Tryd.underlying9 (hval 1 9 v1 rfl rfl) h1
  obtain ⟨fuel2, hf2⟩ := h2
  have hb1 : Rows.uptoBulkAll ([d0, .lit (.string a1.data.toList), d2] ++ []) ≤ 1048576 := of_decide_eq_true hk
  have hb2 : Rows.uptoBulk d2 ≤ 1048576 := Nat.le_trans (bulk_mem (by simp)) hb1
  obtain ⟨x, hx, hcn, hsmv⟩ := value_reads 1048576 fuel2 _ _ (Nat.le_refl _) hb2 hf2
  obtain ⟨cs2, rfl, hsz2⟩ := okWide_struct Tryd.underlying28 (hval 2 28 v2 rfl rfl)
  obtain ⟨xi, xl, hcs2, _⟩ := hx.opens
  have hcs3 : cs2 = #[.int .i64 x.kind, .int .i64 x.n, .string x.s, .slice xi.a xi.len xi.cap, .slice xl.a xl.len xl.cap] := by
    have : cs2.toList = [.int .i64 x.kind, .int .i64 x.n, .string x.s, .slice xi.a xi.len xi.cap, .slice xl.a xl.len xl.cap] := by simpa [Value.cells] using hcs2
    rw [← Array.toList_inj, this]
  rw [hcs2] at hx
  subst hcs3
  clear hA0
  refine (compatSelf_calls s ts a1 1048576 x xi xl W hbk hL1 hfit hsmv (Nat.le_trans hcn hb2) hx).mono fun e W' ⟨he, hb⟩ => ?_
  subst he
  exact ⟨_, rfl, post_true (s := Rows.compatSelfSpec) laidOutAll hW' hb compatSelf_params rfl (by kernel_rfl) Tryd.underlying4 rfl rfl rfl⟩

theorem compatSelf_said : Rows.CompatSelfUptoSaid :=
  OpenClaim.holds_of_cond 3 Tryd.f3 rfl rfl rfl rfl rfl rfl rfl ⟨rfl, rfl, rfl, rfl, rfl⟩ rfl rfl rfl rfl rfl (by kernel_rfl) Tryd.func3 (by kernel_rfl)
    (of_decide_eq_true (by kernel_rfl)) (by unfold Func.isWrapper; first | (rw [if_pos (by decide +kernel)]; kernel_rfl) | (rw [if_neg (by decide +kernel)]; exact ⟨rfl, rfl⟩))
    (fun os started H enc _ F => by rw [OpenClaim.pre_eq_preRow]; exact compatSelf_lifted os started H enc F)

theorem compatSelf_plain (f : FuncId) (fn : Func) (hf : Tryd.pinned.checked.prog.funcNamed Tryd.f3.name = some f) (hfn : Tryd.pinned.checked.prog.funcs[f]? = some fn) :
    false = Tryd.pinned.checked.prog.looks [] ∧ ∀ (j : Nat) t, fn.params[j]? = some t → Tryd.pinned.checked.prog.wantsStandIn t = false := by
  obtain rfl : f = 3 := Option.some.inj ((show Tryd.prog.funcNamed Tryd.f3.name = some 3 by kernel_rfl).symm.trans hf) |>.symm
  obtain rfl : fn = Tryd.f3 := (Option.some.inj (Tryd.func3.symm.trans hfn)).symm
  refine ⟨by kernel_rfl, fun j t ht => ?_⟩
  rw [Tryd.params3] at ht
  have ht' : t = 24 ∨ t = 9 ∨ t = 28 := by simpa using Array.mem_of_getElem? ht
  rcases ht' with rfl | rfl | rfl
  · exact (show Tryd.prog.wantsStandIn 24 = false by kernel_rfl)
  · exact (show Tryd.prog.wantsStandIn 9 = false by kernel_rfl)
  · exact (show Tryd.prog.wantsStandIn 28 = false by kernel_rfl)

theorem compatSelf_card : Rows.CompatSelfUptoCardSaid :=
  Claim7.holds_tied_plain_at .later [] _ _ _ _ compatSelf_said (fun _ h => by cases h) (by kernel_rfl) (fun _ h => by cases h) compatSelfUpto_row_tie rfl ⟨rfl, rfl⟩ (by kernel_rfl) rfl compatSelf_plain (by kernel_rfl)
#print axioms compatSelf_card
end Go.Proofs.YtnppgeiompimaaaDoor

