import Derived.Test.YtnppgeiompimaaaDoorM22
import Derived.Deep.QuietTactic
import Derived.BigQuiet
namespace Go.Proofs.YtnppgeiompimaaaDoor
set_option linter.unusedSimpArgs false
set_option linter.unusedVariables false
set_option linter.unusedSimpArgs false
set_option linter.unusedVariables false
open Go.RowKit

theorem zeroAtP (S : Nat → Prop) (k : Nat) (w : World) : ValueAtP S (k + 1) w [.int .i64 0, .int .i64 0, .string ⟨#[]⟩, .slice none 0 0, .slice none 0 0] ValueM.zero := leafAt S k w 0 0

end Go.Proofs.YtnppgeiompimaaaDoor

namespace Go.Proofs.YtnppgeiompimaaaDoor
set_option linter.unusedSimpArgs false
set_option linter.unusedVariables false
open Go.RowKit

def prevP (ps : List PartM) (j : Nat) : Option Int := if j = 0 then none else (ps[j - 1]?).map (·.id)
theorem prevP_succ {ps : List PartM} {j : Nat} (h : j < ps.length) : prevP ps (j + 1) = some ps[j].id := by
  unfold prevP
  rw [if_neg (by omega)]
  simp [h]
theorem parts_len : ∀ {ps : List PartM}, (∀ p ∈ ps, p.good) → ps.length ≤ (ps.flatMap partB).length
  | [], _ => Nat.zero_le _
  | p :: r, h => by
    have ih := parts_len (ps := r) fun q hq => h q (by simp [hq])
    have h1 := partB_len (h p (by simp))
    rw [List.flatMap_cons, List.length_append, List.length_cons]; omega
theorem parts_small {l : List UInt8} (h : decE l = 0) : (decL l).length ≤ 20000 ∧ ∀ p ∈ decL l, p.s.size ≤ 20000 := by
  obtain ⟨h1, h2, h3⟩ := decL_good h
  refine ⟨?_, fun p hp => ?_⟩
  · have := parts_len h2
    rw [← h3] at this; omega
  · rcases (h2 p hp).2.2 with ⟨_, _, _, e⟩ | ⟨_, _, e⟩
    · rw [e]; decide
    · exact e
theorem readL_step {ts : BookM} {rec : FieldM → ByteArray → Int × ValueM} {t : TypeM} {ps : List PartM} {j : Nat} {prev : Option Int} {st : List Int × List ValueM} (h : j < ps.length) :
    readL ts rec t prev (ps.drop j) st = if stepE ts rec t prev ps[j] st ≠ 0 then (stepE ts rec t prev ps[j] st, ([], [])) else readL ts rec t (prevP ps (j + 1)) (ps.drop (j + 1)) (stepV rec t ps[j] st) := by
  rw [List.drop_eq_getElem_cons h, readL, prevP_succ h]
/-- What a part may be. -/
theorem step_fell {ts : BookM} {rec : FieldM → ByteArray → Int × ValueM} {t : TypeM} {prev : Option Int} {p : PartM} {st : List Int × List ValueM} (h : fellB prev p.id = true) : stepE ts rec t prev p st = 1 := by
  unfold stepE; rw [if_pos h]
theorem step_past {ts : BookM} {rec : FieldM → ByteArray → Int × ValueM} {t : TypeM} {prev : Option Int} {p : PartM} {st : List Int × List ValueM} (h : fellB prev p.id = false) (hf : (fieldM t p.id).isSome = false) : stepE ts rec t prev p st = 0 ∧ stepV rec t p st = st := by
  unfold stepE stepV
  cases hm : fieldM t p.id with
  | some f => rw [hm] at hf; cases hf
  | none => rw [if_neg (by simp [h])]; exact ⟨rfl, rfl⟩
theorem step_field {ts : BookM} {rec : FieldM → ByteArray → Int × ValueM} {t : TypeM} {prev : Option Int} {p : PartM} {st : List Int × List ValueM} {f : FieldM} (h : fellB prev p.id = false) (hf : fieldM t p.id = some f) :
    (wrongOneN ts f (bareM p).kind (bareM p).n (bareM p).s 0 0 ≠ 0 → stepE ts rec t prev p st = wrongOneN ts f (bareM p).kind (bareM p).n (bareM p).s 0 0) ∧
    (wrongOneN ts f (bareM p).kind (bareM p).n (bareM p).s 0 0 = 0 → f.rule ≠ 3 → st.1.contains f.id = true → stepE ts rec t prev p st = 4) ∧
    (wrongOneN ts f (bareM p).kind (bareM p).n (bareM p).s 0 0 = 0 → (f.rule = 3 ∨ st.1.contains f.id = false) → f.kind = 5 → stepE ts rec t prev p st = (rec f p.s).1 ∧ stepV rec t p st = (st.1 ++ [f.id], st.2 ++ [(rec f p.s).2])) ∧
    (wrongOneN ts f (bareM p).kind (bareM p).n (bareM p).s 0 0 = 0 → (f.rule = 3 ∨ st.1.contains f.id = false) → f.kind ≠ 5 → stepE ts rec t prev p st = 0 ∧ stepV rec t p st = (st.1 ++ [f.id], st.2 ++ [bareM p])) := by
  unfold stepE stepV
  rw [if_neg (by simp [h]), hf]
  simp only
  refine ⟨fun h1 => by rw [if_pos h1], fun h1 h2 h3 => by rw [if_neg (by simp [h1]), if_pos ⟨h2, h3⟩], fun h1 h2 h5 => ?_, fun h1 h2 h5 => ?_⟩
  · have hn : ¬ (f.rule ≠ 3 ∧ st.1.contains f.id = true) := by rintro ⟨a, b⟩; rcases h2 with h2 | h2; exact a h2; rw [h2] at b; cases b
    rw [if_neg (by simp [h1]), if_neg hn, if_pos h5, if_pos h5]; exact ⟨rfl, rfl⟩
  · have hn : ¬ (f.rule ≠ 3 ∧ st.1.contains f.id = true) := by rintro ⟨a, b⟩; rcases h2 with h2 | h2; exact a h2; rw [h2] at b; cases b
    rw [if_neg (by simp [h1]), if_neg hn, if_neg h5, if_neg h5]; exact ⟨rfl, rfl⟩
theorem pw_snoc {l : List Int} {x : Int} (h : l.Pairwise (· ≤ ·)) (hx : ∀ a ∈ l, a ≤ x) : (l ++ [x]).Pairwise (· ≤ ·) := by
  rw [List.pairwise_append]
  exact ⟨h, List.pairwise_singleton _ _, fun a ha b hb => by rw [List.mem_singleton] at hb; rw [hb]; exact hx a ha⟩
end Go.Proofs.YtnppgeiompimaaaDoor

