import Derived.Test.YtgobejbboeeieaaA14
import Derived.Deep.Slices
import Derived.Lib.SmallJoins
namespace Go.Proofs.Ytgobejbboeeieaa
set_option linter.unusedSimpArgs false
set_option linter.unusedVariables false
open Go.ChangeShapes Go.WideShapes Go.ChangeAt Go.RowKit

/-- A slice that is read: its elements, one by one, each told by R, and Q of what it reads as. -/
theorem slice_reads {α H : Type} {enc : TypeId × Value → H} {P : Program} {w : World} {held : Bool} (df : α) (k : Nat) (R : World → List Value → α → Prop) (Q : α → DataW H → Prop) {t e : TypeId} {fuel : Nat} {cs : List Value} {x : DataW H × List MemPlace}
    (ht : P.underlying t = some (.slice e)) (hk : P.cellsOf e = k) (hk0 : 0 < k) (h : DataW.trod enc P w 0 (fun _ => true) held fuel t cs = some x)
    (hel : ∀ (n : Nat) (cs' : List Value) (y : DataW H × List MemPlace), DataW.trod enc P w 0 (fun _ => true) held n e cs' = some y → ∃ a : α, R w cs' a ∧ Q a y.1) :
    ∃ (s : SV) (l : List α) (ds sp : List (DataW H)), cs = [.slice s.a s.len s.cap] ∧ SliceAt k R w s l ∧ s.ok ∧ s.len ≤ maxLen ∧ (x.1 = .nil ∧ l = [] ∨ x.1 = .slice ds sp) ∧ ds.length = l.length ∧ ∀ (i : Nat) (a : α), l[i]? = some a → ∃ d, ds[i]? = some d ∧ Q a d := by
  rcases Go.Deep.open_slice ht h with ⟨rfl, rfl⟩ | ⟨a, len, cap, m, n, D, Pl, rfl, _, hl, hm, hmm, rfl, hx⟩
  · exact ⟨⟨none, 0, 0⟩, [], [], [], rfl, ⟨rfl, fun i a hi => by simp at hi⟩, ⟨Nat.le_refl _, fun _ => rfl⟩, Nat.zero_le _, .inl ⟨rfl, rfl⟩, rfl, fun i a hi => by simp at hi⟩
  · simp only [if_true] at hmm
    subst hmm
    rw [hk] at hx
    have hpt : ∀ i, i < len → ∃ z : α × List Value, w.cells? 0 (a.add (i * k)) k = some z.2 ∧ R w z.2 z.1 ∧ Q z.1 (D i) := fun i hi => by
      obtain ⟨cs', h1, h2⟩ := hx i (by omega)
      obtain ⟨a, h3, h4⟩ := hel n cs' _ h2
      exact ⟨(a, cs'), h1, h3, h4⟩
    have hinh : Inhabited (α × List Value) := ⟨(df, [])⟩
    obtain ⟨f, hf⟩ := Go.Deep.choose_lt hpt
    refine ⟨⟨some a, len, m⟩, (List.range len).map fun i => (f i).1, (List.range len).map D, _, rfl, ⟨by simp, fun i y hi => ?_⟩, ⟨hl, fun h => by simp at h⟩, Nat.le_trans hl hm, .inr rfl, by simp, fun i y hi => ?_⟩
    · have hlt : i < len := by
        have := (List.getElem?_eq_some_iff.1 hi).1
        simpa using this
      have e : y = (f i).1 := by simpa [hlt] using hi.symm
      subst e
      obtain ⟨h1, h2, _⟩ := hf i hlt
      obtain ⟨_, hlen, hcell⟩ := World.cells?_some h1
      obtain ⟨b, off, spot⟩ := a
      have g0 := hcell 0 hk0
      have hspot : spot = none := by
        obtain ⟨c0, hc0⟩ : ∃ c0, (f i).2[0]? = some c0 := ⟨_, List.getElem?_eq_getElem (by omega)⟩
        rw [hc0] at g0
        have := World.cell?_spot g0
        by_cases hi0 : i * k = 0
        · simpa [Addr.add, hi0] using this
        · obtain ⟨h1', h2', _⟩ := hf 0 (by omega)
          obtain ⟨_, hlen', hcell'⟩ := World.cells?_some h1'
          have g0' := hcell' 0 hk0
          obtain ⟨c0', hc0'⟩ : ∃ c0, (f 0).2[0]? = some c0 := ⟨_, List.getElem?_eq_getElem (by omega)⟩
          rw [hc0'] at g0'
          simpa [Addr.add] using World.cell?_spot g0'
      subst hspot
      refine ⟨b, off, (f i).2, rfl, fun j u hu => ?_, h2⟩
      have hj : j < k := by
        have := (List.getElem?_eq_some_iff.1 hu).1
        omega
      have := hcell j hj
      rw [hu, Addr.add_mid, Addr.add_mid] at this
      exact this
    · have hlt : i < len := by
        have := (List.getElem?_eq_some_iff.1 hi).1
        simpa using this
      have e : y = (f i).1 := by simpa [hlt] using hi.symm
      subst e
      exact ⟨D i, by simp [hlt], (hf i hlt).2.2⟩
end Go.Proofs.Ytgobejbboeeieaa
