/-
  For every book, name, id and value, Size, Typed, Least and LeastOf answer what the document's own answer (patternbookref) says of them, errors too, and the book and the value handed in are left as they were (promises P3.1 to P3.4: the statement ValueTypes, the second form's card). Condition: the arguments, and the package variables that the reading takes, are together of bulk at most 1048576 (uptoSmall of the given rows); the package variables are what the program's own text lays (the card's tie), and the variable of the table's length holds whatever its type allows.
-/
import Derived.Test.YtmdpdgldmedebaaGreatDoorM44
namespace Go.Proofs.YtmdpdgldmedebaaGreatDoor
set_option linter.unusedSimpArgs false
set_option linter.unusedVariables false
set_option linter.unusedSimpArgs false
set_option linter.unusedVariables false
open Go.ChangeShapes Go.WideShapes Go.ChangeAt Go.RowKit
open Go.ChangeMaps (open_string shut_string)

set_option maxRecDepth 100000 in
theorem valueTypes_wit (os : Os) {H : Type} (enc : TypeId × Value → H) :
    ∃ (w : World) (tape : Tape) (i : Input), w.os = os ∧ (w.forCall tape i).Shaped Tryz.checked.prog ∧ i.vars = [] ∧ Input.okWide Tryz.checked.prog (w.forCall tape i) .any w.heap.size 3 i ∧
      (Rows.OpenSpec.upto Rows.valueTypesSpec).preRow enc Tryz.checked.prog Tryz.f3 Rows.valueTypesUptoRow.domain false Rows.valueTypesUptoRow.laid (w.forCall tape i).memory i.args ∧ ({ modest := false } : Assume).holds Tryz.checked.prog (lone (Frame.enter Tryz.checked.prog 3 i.args .normal) [] (w.forCall tape i)) := by
  refine witness_row_atRef (enc := enc) (C := Tryz.checked) false { World.holding Tryz.prog os noInput with heap := layHeapZ (World.holding Tryz.prog os noInput).heap } #[.agg #[.slice none 0 0], .string ⟨#[]⟩, .int .i64 0, .agg #[.int .i64 0, .int .i64 0, .string ⟨#[]⟩, .slice none 0 0, .slice none 0 0]] rfl (by kernel_rfl) (by kernel_rfl) (by kernel_rfl) ?_
  refine OpenSpec.preRow_of_cond 8 (x := ([.agg [.nil], .lit (.string []), .lit (.int .i64 0), .agg [.lit (.int .i64 0), .lit (.int .i64 0), .lit (.string []), .nil, .nil]], [], [])) (by kernel_rfl) (by kernel_rfl) (fun k hk => by cases hk; kernel_rfl) (by kernel_rfl) ?_
  exact laidMet_of_run' 8 (by kernel_rfl) (by kernel_rfl)

theorem valueTypes_params : ∀ t ∈ Tryz.f3.params.toList, Tryz.prog.readableRec t = true ∧ t < Tryz.prog.types.size := by
  rw [Tryz.params3]
  intro t ht
  have ht' : t = 24 ∨ t = 9 ∨ t = 3 ∨ t = 28 := by simpa using ht
  rcases ht' with rfl | rfl | rfl | rfl
  · exact ⟨by kernel_rfl, of_decide_eq_true (by kernel_rfl)⟩
  · exact ⟨by kernel_rfl, of_decide_eq_true (by kernel_rfl)⟩
  · exact ⟨by kernel_rfl, of_decide_eq_true (by kernel_rfl)⟩
  · exact ⟨by kernel_rfl, of_decide_eq_true (by kernel_rfl)⟩

set_option maxRecDepth 100000 in
theorem valueTypes_lifted (os : Os) (started : os.Started) (H : Type) (enc : TypeId × Value → H) (F : Stop.Interp) :
    ReturnsInHanded {} Tryz.checked os 3 .any ((Rows.OpenSpec.upto Rows.valueTypesSpec).preRow enc Tryz.prog Tryz.f3 Rows.valueTypesUptoRow.domain false Rows.valueTypesUptoRow.laid) (((Rows.OpenSpec.upto Rows.valueTypesSpec).at F).post enc Tryz.prog Tryz.f3 false true false false) := by
  refine returnsInHanded_of_row (C := Tryz.checked) (s := Rows.OpenSpec.upto Rows.valueTypesSpec) ownKnobs started (by kernel_rfl) Tryz.func3 (valueTypes_wit os enc) ?_
  intro W base args ds gs before hval0 hW _ hcond _ hL hSh _
  have hval : ∀ (j : Nat) t v, Tryz.f3.params[j]? = some t → args[j]? = some v → Value.okWide Tryz.prog W .any base t v := hval0
  have hW1 : DataW.Whole enc Tryz.prog Tryz.f3.params.toList Rows.valueTypesSpec.vars false W args.toList ds gs before := hW
  have hk : Rows.uptoSmall H (ds ++ gs) = true := hcond _ rfl
  have hL1 : WordsAt W := laid_of hL
  have hM : MaxAt W := max_of hSh
  clear hL hW hval0 hcond hSh
  have hW' := hW1
  obtain ⟨p, q, hA0, hV, rfl, hfz, hnd⟩ := hW1
  have hA : DataW.TrodAll enc Tryz.prog W 0 (fun _ => true) true Tryz.f3.params.toList args.toList ds p := hA0
  rw [Tryz.params3] at hA hval
  obtain ⟨v0, vs0, d0, ds0, p0, q0, hargs0, rfl, rfl, h0, r0⟩ := trodAll_cons hA
  obtain ⟨v1, vs1, d1, ds1, p1, q1, hargs1, rfl, rfl, h1, r1⟩ := trodAll_cons r0
  obtain ⟨v2, vs2, d2, ds2, p2, q2, hargs2, rfl, rfl, h2, r2⟩ := trodAll_cons r1
  obtain ⟨v3, vs3, d3, ds3, p3, q3, hargs3, rfl, rfl, h3, r3⟩ := trodAll_cons r2
  obtain ⟨rfl, rfl, rfl⟩ := trodAll_nil r3
  subst hargs3 hargs2 hargs1
  obtain rfl : args = #[v0, v1, v2, v3] := by cases args; simp_all
  obtain ⟨rfl, rfl⟩ := trodVars_none hV
  obtain ⟨fuel0, hf0⟩ := h0
  obtain ⟨s, ts, hcs, hbk, hsm⟩ := book_reads hf0
  obtain ⟨a1, rfl, rfl, rfl, z1⟩ := open_string Tryz.underlying9 (hval 1 9 v1 rfl rfl) h1
  obtain ⟨n2, rfl, rfl, rfl, _⟩ := open_int Tryz.underlying3 (hval 2 3 v2 rfl rfl) h2
  obtain ⟨fuel3, hf3⟩ := h3
  have hb1 : Rows.uptoBulkAll ([d0, .lit (.string a1.data.toList), .lit (.int .i64 n2), d3] ++ []) ≤ 1048576 := of_decide_eq_true hk
  have hb2 : Rows.uptoBulk d0 ≤ 1048576 := Nat.le_trans (bulk_mem (by simp)) hb1
  obtain ⟨cs1, rfl, hsz1⟩ := okWide_struct Tryz.underlying24 (hval 0 24 v0 rfl rfl)
  have hv : cs1 = #[.slice s.a s.len s.cap] := by
    have : cs1.toList = [.slice s.a s.len s.cap] := by simpa [Value.cells] using hcs
    rw [← Array.toList_inj, this]
  subst hv
  have hb3 : Rows.uptoBulk d3 ≤ 1048576 := Nat.le_trans (bulk_mem (by simp)) hb1
  obtain ⟨x, hx, hcn, hsmv⟩ := value_reads 1048576 fuel3 _ _ (Nat.le_refl _) hb3 hf3
  obtain ⟨cs2, rfl, hsz2⟩ := okWide_struct Tryz.underlying28 (hval 3 28 v3 rfl rfl)
  obtain ⟨xi, xl, hcs2, _⟩ := hx.opens
  have hcs3 : cs2 = #[.int .i64 x.kind, .int .i64 x.n, .string x.s, .slice xi.a xi.len xi.cap, .slice xl.a xl.len xl.cap] := by
    have : cs2.toList = [.int .i64 x.kind, .int .i64 x.n, .string x.s, .slice xi.a xi.len xi.cap, .slice xl.a xl.len xl.cap] := by simpa [Value.cells] using hcs2
    rw [← Array.toList_inj, this]
  rw [hcs2] at hx
  subst hcs3
  clear hA0
  refine (valueTypes_calls s ts (hsm hb2) a1 n2 1048576 x xi xl W hbk hL1 hM hsmv (Nat.le_trans hcn hb3) hx).mono fun e W' ⟨he, hb⟩ => ?_
  subst he
  exact ⟨_, rfl, post_true (s := Rows.valueTypesSpec) laidOutAll hW' hb valueTypes_params rfl (by kernel_rfl) Tryz.underlying4 rfl rfl rfl⟩

theorem valueTypes_said : Rows.ValueTypesUptoSaid :=
  OpenClaim.holds_of_cond 3 Tryz.f3 rfl rfl rfl rfl rfl rfl rfl ⟨rfl, rfl, rfl, rfl, rfl⟩ rfl rfl rfl rfl rfl (by kernel_rfl) Tryz.func3 (by kernel_rfl)
    (of_decide_eq_true (by kernel_rfl)) (by unfold Func.isWrapper; first | (rw [if_pos (by decide +kernel)]; kernel_rfl) | (rw [if_neg (by decide +kernel)]; exact ⟨rfl, rfl⟩))
    (fun os started H enc _ F => by rw [OpenClaim.pre_eq_preRow]; exact valueTypes_lifted os started H enc F)

theorem valueTypes_plain (f : FuncId) (fn : Func) (hf : Tryz.pinned.checked.prog.funcNamed Tryz.f3.name = some f) (hfn : Tryz.pinned.checked.prog.funcs[f]? = some fn) :
    false = Tryz.pinned.checked.prog.looks [] ∧ ∀ (j : Nat) t, fn.params[j]? = some t → Tryz.pinned.checked.prog.wantsStandIn t = false := by
  obtain rfl : f = 3 := Option.some.inj ((show Tryz.prog.funcNamed Tryz.f3.name = some 3 by kernel_rfl).symm.trans hf) |>.symm
  obtain rfl : fn = Tryz.f3 := (Option.some.inj (Tryz.func3.symm.trans hfn)).symm
  refine ⟨by kernel_rfl, fun j t ht => ?_⟩
  rw [Tryz.params3] at ht
  have ht' : t = 24 ∨ t = 9 ∨ t = 3 ∨ t = 28 := by simpa using Array.mem_of_getElem? ht
  rcases ht' with rfl | rfl | rfl | rfl
  · exact (show Tryz.prog.wantsStandIn 24 = false by kernel_rfl)
  · exact (show Tryz.prog.wantsStandIn 9 = false by kernel_rfl)
  · exact (show Tryz.prog.wantsStandIn 3 = false by kernel_rfl)
  · exact (show Tryz.prog.wantsStandIn 28 = false by kernel_rfl)

theorem valueTypes_card : Rows.ValueTypesUptoCardSaid :=
  Claim7.holds_tied_plain_at .later [] _ _ _ _ valueTypes_said (fun _ h => by cases h) (by kernel_rfl) (fun _ h => by cases h) valueTypesUpto_row_tie rfl ⟨rfl, rfl⟩ (by kernel_rfl) rfl valueTypes_plain (by kernel_rfl)
#print axioms valueTypes_card
end Go.Proofs.YtmdpdgldmedebaaGreatDoor

