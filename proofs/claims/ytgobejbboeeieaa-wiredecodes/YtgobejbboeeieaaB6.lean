import Derived.Test.YtgobejbboeeieaaB5
import Derived.Test.YtgobejbboeeieaaA11
namespace Go.Proofs.Ytgobejbboeeieaa
set_option linter.unusedSimpArgs false
set_option linter.unusedVariables false
open Go.RowKit

set_option maxHeartbeats 1600000 in
theorem samePart_true (s t : SV) (ps : List PartM) (w : World) (hs : PartsAt w s ps) (ht : PartsAt w t ps) (hn : ps.length ≤ 9223372036854775807) :
    Calls Try.prog 14 #[.slice s.a s.len s.cap, .slice t.a t.len t.cap] w fun e w' => e = .returned (.bool true) ∧ Ext w w' := by
  obtain ⟨a, n, cap⟩ := s
  obtain ⟨a', n', cap'⟩ := t
  have hl := hs.1
  have hl' := ht.1
  simp only at hl hl'
  subst hl hl'
  have F1 := hide hs.2
  have F2 := hide ht.2
  clear hs ht
  go_enter Try.func14, Try.ntmps14
  go_wp2
  go_loopw [13] (fun i wr => ∃ k : Nat, k ≤ ps.length ∧ i = .int .i64 k ∧ Ext w wr) (fun i _ => ps.length - (intOf i).toNat)
  case atStart => exact ⟨0, by omega, rfl, Ext.refl _⟩
  case round =>
    obtain ⟨k, hk, rfl, hx⟩ := hrel
    by_cases hlt : k < ps.length
    · obtain ⟨b, o, cs, ha, hr, rfl⟩ := (unhide F1) k ps[k] (by simp [hlt])
      obtain ⟨b', o', cs', ha', hr', rfl⟩ := (unhide F2) k ps[k] (by simp [hlt])
      subst ha ha'
      obtain ⟨f0, f1, f2, f3⟩ := range4 (hx.range hr)
      obtain ⟨g0, g1, g2, g3⟩ := range4 (hx.range hr')
      generalize ps[k] = f at *
      clear F1 F2 hr hr'
      go_wp2_with fail
      go_quiet (fail)
      go_wp2
      exact ⟨⟨k + 1, by omega, by go_num, hx.drewN _⟩, by simp [intOf]; omega⟩
    · go_wp2
      go_ret
      exact ⟨rfl, hx⟩

theorem decR_at {L : List UInt8} {at' n : Nat} {p : PartM} {r : Nat} (hL : L.length = n) (hat : at' < n) (hr : r ≤ n) (hc : cutP (L.drop at') = some (p, L.drop r)) (hg : goodB p = true) : decR (n - at') (L.drop at') = (decR (n - r) (L.drop r)).map (p :: ·) := by
  have h1 := decR_step (t := ⟨(L.drop at').toArray⟩) (p := p) (r := ⟨(L.drop r).toArray⟩) (by simpa using hc) hg
  have e1 : (ByteArray.mk (L.drop at').toArray).size = n - at' := by simp [ByteArray.size, hL]
  have e2 : (ByteArray.mk (L.drop r).toArray).size = n - r := by simp [ByteArray.size, hL]
  rw [e1, e2] at h1
  simpa using h1
theorem decR_at_no {L : List UInt8} {at' n : Nat} (hL : L.length = n) (hat : at' < n) (h : cutP (L.drop at') = none ∨ ∃ p r, cutP (L.drop at') = some (p, r) ∧ goodB p = false) : decR (n - at') (L.drop at') = none := by
  have e1 : (ByteArray.mk (L.drop at').toArray).size = n - at' := by simp [ByteArray.size, hL]
  have h1 := decR_fail (t := ⟨(L.drop at').toArray⟩) (fun e => by rw [e] at e1; simp [ByteArray.size] at e1; omega) (by simpa using h)
  rw [e1] at h1
  simpa using h1
end Go.Proofs.Ytgobejbboeeieaa
