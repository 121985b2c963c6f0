import Derived.Test.YtnppgeiompimaaaDoorM24
namespace Go.Proofs.YtnppgeiompimaaaDoor
set_option linter.unusedSimpArgs false
set_option linter.unusedVariables false
set_option linter.unusedSimpArgs false
set_option linter.unusedVariables false
open Go.RowKit

/-- What Decode answers. -/
def decA (ts : BookM) (name s : ByteArray) : Int × ValueM :=
  if msgE ts name ≠ 0 then (msgE ts name, ValueM.zero)
  else if (readM ts 23 (msgT ts name) s).1 ≠ 0 then ((readM ts 23 (msgT ts name) s).1, ValueM.zero)
  else if largeB 29 (readM ts 23 (msgT ts name) s).2 = true then (7, ValueM.zero) else (0, (readM ts 23 (msgT ts name) s).2)
theorem msg_msg {ts : BookM} {name : ByteArray} (h : msgE ts name = 0) : Msg ts (msgT ts name) := ⟨name, (msg_good h).2.1, (msg_good h).2.2⟩

theorem typed_out {ts : BookM} {name : ByteArray} {K : Nat} {v : ValueM} (hf : Fits K v) (h : typedM ts name K v = 0) : msgE ts name = 0 ∧ depM K v ≤ 24 ∧ cntM K v ≤ 400 ∧ TypedP ts K (msgT ts name) v := by
  unfold typedM at h
  by_cases h1 : msgE ts name = 0
  · rw [if_neg (by simp [h1])] at h
    by_cases h2 : largeB K v = true
    · rw [if_pos h2] at h; cases h
    · rw [if_neg h2] at h
      unfold largeB at h2
      simp at h2
      exact ⟨h1, h2.1, h2.2, wrong_typed hf h⟩
  · rw [if_pos h1] at h; exact absurd h h1
theorem typed_enc {ts : BookM} {name : ByteArray} {K : Nat} {v : ValueM} (hf : Fits K v) (h : typedM ts name K v = 0) : EncOk K v := by
  obtain ⟨h1, h2, h3, h4⟩ := typed_out hf h
  exact (TypedP.enc (msg_good h1).1 (msg_msg h1) hf h4 h3).1

/-- What Encode answers. -/
def encA (ts : BookM) (name : ByteArray) (K : Nat) (v : ValueM) : ByteArray := if typedM ts name K v = 0 then ⟨(encV K v).toArray⟩ else ⟨#[]⟩

end Go.Proofs.YtnppgeiompimaaaDoor

namespace Go.Proofs.YtnppgeiompimaaaDoor
set_option linter.unusedSimpArgs false
set_option linter.unusedVariables false
open Go.RowKit

theorem range_row5 {w : World} {b : Nat} {t : TypeId} {c0 c1 c2 c3 c4 : Value} (h : w.heap[b]? = some (.cells #[c0, c1, c2, c3, c4] t (0, 0))) : w.rangeAt b 0 [c0, c1, c2, c3, c4] := by
  obtain ⟨h0, h1, h2, h3, h4, _⟩ := row5 h
  intro j u hu
  rcases j with _ | _ | _ | _ | _ | j
  · simp at hu; subst hu; simpa using h0
  · simp at hu; subst hu; simpa using h1
  · simp at hu; subst hu; simpa using h2
  · simp at hu; subst hu; simpa using h3
  · simp at hu; subst hu; simpa using h4
  · simp at hu

theorem dep_eq {a b : Nat} {v : ValueM} (ha : Fits a v) (hb : Fits b v) : depM a v = depM b v := by
  rcases Nat.le_total a b with h | h
  · exact (dep_le ha h).symm
  · exact dep_le hb h
theorem cnt_eq {a b : Nat} {v : ValueM} (ha : Fits a v) (hb : Fits b v) : cntM a v = cntM b v := by
  rcases Nat.le_total a b with h | h
  · exact (cnt_le ha h).symm
  · exact cnt_le hb h
theorem dec_bad {ts : BookM} {name s : ByteArray} (h : (decA ts name s).1 ≠ 0) : (decA ts name s).2 = ValueM.zero := by
  unfold decA at h ⊢
  split
  · rfl
  · split
    · rfl
    · split
      · rfl
      · rename_i h1 h2 h3
        rw [if_neg h1, if_neg h2, if_neg h3] at h
        exact absurd rfl h
theorem dec_out {ts : BookM} {name s : ByteArray} (h : (decA ts name s).1 = 0) : msgE ts name = 0 ∧ readM ts 23 (msgT ts name) s = (0, (decA ts name s).2) ∧ largeB 29 (decA ts name s).2 = false := by
  unfold decA at h ⊢
  split
  · rename_i h1; rw [if_pos h1] at h; exact absurd h h1
  · rename_i h1
    rw [if_neg h1] at h
    split
    · rename_i h2; rw [if_pos h2] at h; exact absurd h h2
    · rename_i h2
      rw [if_neg h2] at h
      split
      · rename_i h3; rw [if_pos h3] at h; cases h
      · rename_i h3
        refine ⟨by simpa using h1, ?_, by simpa using h3⟩
        have e : (readM ts 23 (msgT ts name) s).1 = 0 := by simpa using h2
        rw [← e]
theorem dec_typed {ts : BookM} {name s : ByteArray} (h : (decA ts name s).1 = 0) (hf : Fits 29 (decA ts name s).2) : typedM ts name 29 (decA ts name s).2 = 0 ∧ SmallV 29 (decA ts name s).2 ∧ cntM 29 (decA ts name s).2 ≤ 1048576 := by
  obtain ⟨h1, h2, h3⟩ := dec_out h
  have hg := (msg_good h1).1
  have hm := msg_msg h1
  have ht := read_typed hg hm h2
  have hc := read_small (m := 29) hg hm h2
  refine ⟨?_, TypedP.small hg hm ht hf hc, hc⟩
  unfold typedM
  rw [if_neg (by simp [h1]), if_neg (by simp [h3])]
  exact typed_wrong (ht.le (by omega))
theorem decA_enc {ts : BookM} {name : ByteArray} {K : Nat} {v : ValueM} (hf : Fits K v) (h : typedM ts name K v = 0) : decA ts name (encA ts name K v) = (0, v) ∧ (encA ts name K v).size ≤ 20000 := by
  obtain ⟨h1, h2, h3, h4⟩ := typed_out hf h
  have hg := (msg_good h1).1
  have hm := msg_msg h1
  have hr := read_enc hg (k := 23) hm hf h4 h3 (by omega)
  have hl := (TypedP.enc hg hm hf h4 h3).2
  have hf24 : Fits 24 v := fits_dep hf h2
  have hf29 : Fits 29 v := hf24.le (by omega)
  have hlg : largeB 29 v = false := by
    unfold largeB
    rw [dep_eq hf29 hf, cnt_eq hf29 hf]
    simp; omega
  have he : encA ts name K v = ⟨(encV K v).toArray⟩ := if_pos h
  rw [he]
  constructor
  · unfold decA
    rw [if_neg (by simp [h1]), hr, if_neg (by simp), if_neg (by simp [hlg])]
  · show (encV K v).toArray.size ≤ 20000
    simp; omega
theorem enc_none {ts : BookM} {name : ByteArray} {K : Nat} {v : ValueM} (h : typedM ts name K v ≠ 0) : encA ts name K v = ⟨#[]⟩ := if_neg h
/-- What is said of a type's least value. -/
theorem least_all {ts : BookM} {name : ByteArray} (h : msgE ts name = 0) : leastA ts name = leastV ts 4 (msgT ts name) ∧ typedM ts name 5 (leastA ts name) = 0 ∧ SmallV 5 (leastA ts name) ∧ cntM 5 (leastA ts name) ≤ 1048576 ∧ decA ts name ⟨#[]⟩ = (0, leastA ts name) ∧ (cntM 5 (leastA ts name) : Int) = leastM ts 4 name := by
  have hg := (msg_good h).1
  have hm := msg_msg h
  have e : leastA ts name = leastV ts 4 (msgT ts name) := if_pos h
  have ht := least_typed hg hm (msg_le h)
  have hf := ht.fits hg hm
  have hc5 := hm.cnt hg 5
  have hc29 := hm.cnt hg 29
  have hfd := (msg_good h).2.1
  rw [e]
  refine ⟨rfl, ?_, TypedP.small hg hm ht hf (by omega), by omega, ?_, ?_⟩
  · unfold typedM
    have hl : largeB 5 (leastV ts 4 (msgT ts name)) = false := by
      unfold largeB
      have := dep_cnt (k := 5) (v := leastV ts 4 (msgT ts name))
      simp; omega
    rw [if_neg (by simp [h]), if_neg (by simp [hl])]
    exact typed_wrong ht.succ
  · have hl : largeB 29 (leastV ts 4 (msgT ts name)) = false := by
      unfold largeB
      have := dep_cnt (k := 29) (v := leastV ts 4 (msgT ts name))
      simp; omega
    unfold decA
    rw [if_neg (by simp [h]), read_none hg hm, if_neg (by simp), if_neg (by simp [hl])]
  · refine cnt_least hg (by omega) hfd ?_
    have hmem := findM_mem hfd
    have := (goodM_least hg _ hmem (msg_good h).2.2).1
    rw [find_name hfd] at this
    omega

end Go.Proofs.YtnppgeiompimaaaDoor

