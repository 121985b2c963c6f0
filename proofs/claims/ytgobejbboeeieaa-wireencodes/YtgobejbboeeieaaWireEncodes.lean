/-
  For all parts, Good and Encode answer exactly what the document's own answer (IsPart, EncodeParts) says, errors too (promises P2.1, P2.2: the statement WireEncodes). Every list of parts that Go can hold is spoken of; no condition.
-/
import Derived.Test.YtgobejbboeeieaaB4
import Derived.Test.YtgobejbboeeieaaA16
import Derived.SizedLaws
namespace Go.Proofs.Ytgobejbboeeieaa
set_option linter.unusedSimpArgs false
set_option linter.unusedVariables false
open Go.ChangeShapes Go.WideShapes Go.ChangeAt Go.RowKit

theorem bytes27 : Try.prog.bytesOf 27 = 40 := by kernel_rfl

/-- Parts that are read, and how many. -/
theorem parts_reads_many {H : Type} {enc : TypeId × Value → H} {w : World} {held : Bool} {fuel : Nat} {cs : List Value} {x : DataW H × List MemPlace} (h : DataW.trod enc Try.prog w 0 (fun _ => true) held fuel 22 cs = some x) :
    ∃ (s : SV) (ps : List PartM) (ds sp : List (DataW H)), cs = [.slice s.a s.len s.cap] ∧ PartsAt w s ps ∧ s.ok ∧ ps.length ≤ maxLen ∧ (∀ p ∈ ps, p.s.size ≤ maxLen) ∧ (x.1 = .nil ∧ ps = [] ∨ x.1 = .slice ds sp ∧ ds.length = ps.length) := by
  obtain ⟨s, l, ds, sp, rfl, hsl, hok, hlen, hx, hdl, hq⟩ := slice_reads (α := PartM) ⟨0, 0, 0, ⟨#[]⟩⟩ 4 (fun _ cs p => cs = p.cells) (fun p _ => p.s.size ≤ maxLen) Try.underlying22 cells27 (by decide) h (fun n cs' y h => part_reads n cs' y h)
  refine ⟨s, l, ds, sp, rfl, hsl, hok, by rw [← hsl.1]; exact hlen, fun p hp => ?_, hx.imp id fun h => ⟨h, hdl⟩⟩
  obtain ⟨i, hi, rfl⟩ := List.getElem_of_mem hp
  obtain ⟨_, _, h⟩ := hq i l[i] (by simp [hi])
  exact h

set_option maxRecDepth 100000 in
theorem wireEncodes_lifted (os : Os) (started : os.Started) (H : Type) (enc : TypeId × Value → H) :
    ReturnsInHanded {} Try.checked os 3 .any (Rows.wireEncodesSpec.pre6 enc Try.prog Try.f3 Rows.wireEncodesRow.domain false) (Rows.wireEncodesSpec.post enc Try.prog Try.f3 false true false false) := by
  refine returnsInHanded_of_change_sized (C := Try.checked) ownKnobs started (by kernel_rfl) Try.func3
    (ChangeSpec.witness6 (enc := enc) (C := Try.checked) false ⟨#[], #[.slice none 0 0], []⟩ 8 (by kernel_rfl) (by kernel_rfl) (by kernel_rfl) (by kernel_rfl)) ?_
  intro W base args ds gs before hval0 hW _ hsz0 _
  have hval : ∀ (j : Nat) t v, Try.f3.params[j]? = some t → args[j]? = some v → Value.okWide Try.prog W .any base t v := hval0
  have hsz : (DataW.weightsEach Try.prog (Try.f3.params.toList ++ Rows.wireEncodesSpec.plain.varTypes Try.prog) (ds ++ gs)).all (· ≤ reachBytes) = true := hsz0
  have hW' := hW
  obtain ⟨p, q, hA0, hV, rfl, hfz, hnd⟩ := hW
  have hA : DataW.TrodAll enc Try.prog W 0 (fun _ => true) true Try.f3.params.toList args.toList ds p := hA0
  rw [Try.params3] at hA hval hsz
  obtain ⟨v0, vs0, d0, ds0, p0, q0, hargs, rfl, rfl, h0, r0⟩ := trodAll_cons hA
  obtain ⟨rfl, rfl, rfl⟩ := trodAll_nil r0
  obtain rfl : args = #[v0] := by cases args; simp_all
  obtain ⟨rfl, rfl⟩ := trodVars_none hV
  obtain ⟨fuel, hf⟩ := h0
  obtain ⟨s, ps, es, sp, hcs, hps, hok, hn, hst, hx⟩ := parts_reads_many hf
  have hnb : ps.length * 40 ≤ 140737488355328 := by
    rcases hx with ⟨_, rfl⟩ | ⟨hx, hl⟩
    · simp
    · simp only at hx
      have h1 := sized_slice hsz (j := 0) (t := 22) (e := 27) (elems := es) (spare := sp) rfl (by rw [hx]; rfl) Try.underlying22
      rw [bytes27] at h1
      have h2 := reachBytes_lt
      have h3 : ps.length * 40 ≤ (es.length + sp.length) * 40 := Nat.mul_le_mul_right 40 (by omega)
      have h4 : (2 : Nat) ^ 47 = 140737488355328 := by decide
      omega
  obtain ⟨a1, l1, c1, hv1⟩ := okWide_slice Try.underlying22 (hval 0 22 v0 rfl rfl)
  have hv : v0 = .slice s.a s.len s.cap := by rw [hv1] at hcs ⊢; simpa [Value.cells] using hcs
  clear hA0 hval0 hv1 hsz0 hsz
  subst hv
  unfold maxLen at hn hst
  refine (wireEncodes_walk s ps W hps hok hn hnb hst).mono fun e W' ⟨he, hb⟩ => ?_
  subst he
  exact ⟨_, rfl, post_true laidOutAll hW' hb (by rw [Try.params3]; intro t ht; simp at ht; subst ht; exact ⟨by kernel_rfl, of_decide_eq_true (by kernel_rfl)⟩) rfl (by kernel_rfl) Try.underlying4 rfl rfl rfl⟩

theorem wireEncodes_proved : Rows.WireEncodesSaid :=
  OpenClaim.holds_of_wide 3 Try.f3 rfl rfl rfl rfl rfl rfl rfl ⟨rfl, rfl, rfl, rfl, rfl⟩ rfl rfl rfl rfl rfl (by kernel_rfl) Try.func3 (by kernel_rfl)
    (of_decide_eq_true (by kernel_rfl)) (by unfold Func.isWrapper; first | (rw [if_pos (by decide +kernel)]; kernel_rfl) | (rw [if_neg (by decide +kernel)]; exact ⟨rfl, rfl⟩))
    (fun os started H enc _ => wireEncodes_lifted os started H enc)
#print axioms wireEncodes_proved
end Go.Proofs.Ytgobejbboeeieaa
