import Derived.Test.YtblkgaoafejefaaDoorCards
import Derived.Test.YtblkgaoafejefaaDoorTie
import Derived.Test.YtblkgaoafejefaaDoorA17
import Derived.ProofKit
import Derived.OpenShut
import Derived.Deep.Slices
import Derived.Deep.DeepHandedRow
import Derived.Deep.DeepWitnessRowRef
import Derived.Lib.LaidTab
namespace Go.Proofs.YtblkgaoafejefaaDoor
set_option linter.unusedSimpArgs false
set_option linter.unusedVariables false
open Go.ChangeShapes Go.WideShapes Go.ChangeAt Go.RowKit

theorem ownKnobs : ownKnob Tryd.prog.godebug = none := by kernel_rfl
theorem laidOutAll : laidOutB Tryd.prog = true := by kernel_rfl
theorem gWords : Tryd.prog.globalNamed "patternbook/book.words" = some 0 := by kernel_rfl
theorem gWordsT : (Tryd.prog.globals[0]?).map (·.type) = some 102 := by kernel_rfl
theorem cells9 : Tryd.prog.cellsOf 9 = 1 := by kernel_rfl
theorem cellsW : Tryd.prog.cellsOf 102 = 9 := by kernel_rfl

/-- All arguments read behind a call that only makes new memory as they did before. -/
theorem trodAll_stays {H : Type} {enc : TypeId × Value → H} {P : Program} (hl : laidOutB P = true) {W W' : World} (hb : Below W.heap.size W W') :
    ∀ {ts : List TypeId} {vs : List Value} {ds : List (DataW H)} {ps : List MemPlace}, (∀ t ∈ ts, P.readableRec t = true ∧ t < P.types.size) → DataW.TrodAll enc P W 0 (fun _ => true) true ts vs ds ps → (∀ x ∈ ps, x.block < W.heap.size) →
      DataW.TrodAll enc P W' 0 (fun b => decide (b < W.heap.size)) true ts vs ds ps
  | [], _, _, _, _, h, _ => by
    obtain ⟨rfl, rfl, rfl⟩ := trodAll_nil h
    exact trodAll_mk0
  | t :: ts, _, _, _, ht, h, hlt => by
    obtain ⟨v0, vs0, d0, ds0, p0, q0, rfl, rfl, rfl, h0, r0⟩ := trodAll_cons h
    obtain ⟨h1, h2⟩ := ht t (List.mem_cons_self ..)
    exact trodAll_cons_mk (Below.trod hl h1 h2 h0 hb fun x hx => hlt x (List.mem_append_left _ hx))
      (trodAll_stays hl hb (fun t ht' => ht t (List.mem_cons_of_mem _ ht')) r0 fun x hx => hlt x (List.mem_append_right _ hx))

/-- What a law's row asks behind the call, where it answered true and nothing that was there has turned. -/
theorem post_true {H : Type} {enc : TypeId × Value → H} {P : Program} (hl : laidOutB P = true) {f : Func} {s : ChangeSpec} {fresh handsOn : Bool} {W W' : World} {args : Array Value} {ds gs : List (DataW H)} {before : List MemPlace} {tb : TypeId}
    (hW : DataW.Whole enc P f.params.toList s.vars false W args.toList ds gs before) (hb : Below W.heap.size W W')
    (ht : ∀ t ∈ f.params.toList, P.readableRec t = true ∧ t < P.types.size) (hv : s.vars = []) (hrt : f.resultTypes = #[tb]) (hub : P.underlying tb = some .bool)
    (hres : (s.fn H (ds ++ gs)).results = [.lit (.bool true)]) (hargs : (s.fn H (ds ++ gs)).args = ds) (hvars : (s.fn H (ds ++ gs)).vars = []) :
    s.post enc P f false fresh handsOn false W args (.bool true) W' := by
  have hlt := hW.lt
  have hW' := hW
  obtain ⟨p, q, hA, hV, rfl, _, _⟩ := hW
  rw [hv] at hV
  obtain ⟨rfl, rfl⟩ := trodVars_none hV
  refine ⟨ds, [], p ++ [], [], p, [], hW', ?_, ?_, ?_, hb.frame _, fun h => by simp at h⟩
  · rw [hres, hrt]
    exact trodAll_cons_mk (shut_bool hub true) trodAll_mk0
  · rw [hargs]
    exact trodAll_stays hl hb ht hA fun x hx => hlt x (List.mem_append_left _ hx)
  · rw [hvars, hv]; exact rfl

/-- A slice that is read: its elements, one by one, each told by R, and Q of what it reads as. -/
theorem slice_reads {α H : Type} {enc : TypeId × Value → H} {P : Program} {w : World} {held : Bool} (df : α) (k : Nat) (R : World → List Value → α → Prop) (Q : α → DataW H → Prop) {t e : TypeId} {fuel : Nat} {cs : List Value} {x : DataW H × List MemPlace}
    (ht : P.underlying t = some (.slice e)) (hk : P.cellsOf e = k) (hk0 : 0 < k) (h : DataW.trod enc P w 0 (fun _ => true) held fuel t cs = some x)
    (hel : ∀ (n : Nat) (cs' : List Value) (y : DataW H × List MemPlace), DataW.trod enc P w 0 (fun _ => true) held n e cs' = some y → ∃ a : α, R w cs' a ∧ Q a y.1) :
    ∃ (s : SV) (l : List α) (ds sp : List (DataW H)), cs = [.slice s.a s.len s.cap] ∧ SliceAt k R w s l ∧ s.ok ∧ s.len ≤ maxLen ∧ (x.1 = .nil ∧ l = [] ∨ x.1 = .slice ds sp) ∧ ds.length = l.length ∧ ∀ (i : Nat) (a : α), l[i]? = some a → ∃ d, ds[i]? = some d ∧ Q a d := by
  rcases Go.Deep.open_slice ht h with ⟨rfl, rfl⟩ | ⟨a, len, cap, m, n, D, Pl, rfl, _, hl, hm, hmm, rfl, hx⟩
  · exact ⟨⟨none, 0, 0⟩, [], [], [], rfl, ⟨rfl, fun i a hi => by simp at hi⟩, ⟨Nat.le_refl _, fun _ => rfl⟩, Nat.zero_le _, .inl ⟨rfl, rfl⟩, rfl, fun i a hi => by simp at hi⟩
  · simp only [if_true] at hmm
    subst hmm
    rw [hk] at hx
    have hpt : ∀ i, i < len → ∃ z : α × List Value, w.cells? 0 (a.add (i * k)) k = some z.2 ∧ R w z.2 z.1 ∧ Q z.1 (D i) := fun i hi => by
      obtain ⟨cs', h1, h2⟩ := hx i (by omega)
      obtain ⟨a, h3, h4⟩ := hel n cs' _ h2
      exact ⟨(a, cs'), h1, h3, h4⟩
    have hinh : Inhabited (α × List Value) := ⟨(df, [])⟩
    obtain ⟨f, hf⟩ := Go.Deep.choose_lt hpt
    refine ⟨⟨some a, len, m⟩, (List.range len).map fun i => (f i).1, (List.range len).map D, _, rfl, ⟨by simp, fun i y hi => ?_⟩, ⟨hl, fun h => by simp at h⟩, Nat.le_trans hl hm, .inr rfl, by simp, fun i y hi => ?_⟩
    · have hlt : i < len := by
        have := (List.getElem?_eq_some_iff.1 hi).1
        simpa using this
      have e : y = (f i).1 := by simpa [hlt] using hi.symm
      subst e
      obtain ⟨h1, h2, _⟩ := hf i hlt
      obtain ⟨_, hlen, hcell⟩ := World.cells?_some h1
      obtain ⟨b, off, spot⟩ := a
      have g0 := hcell 0 hk0
      have hspot : spot = none := by
        obtain ⟨c0, hc0⟩ : ∃ c0, (f i).2[0]? = some c0 := ⟨_, List.getElem?_eq_getElem (by omega)⟩
        rw [hc0] at g0
        have := World.cell?_spot g0
        by_cases hi0 : i * k = 0
        · simpa [Addr.add, hi0] using this
        · obtain ⟨h1', h2', _⟩ := hf 0 (by omega)
          obtain ⟨_, hlen', hcell'⟩ := World.cells?_some h1'
          have g0' := hcell' 0 hk0
          obtain ⟨c0', hc0'⟩ : ∃ c0, (f 0).2[0]? = some c0 := ⟨_, List.getElem?_eq_getElem (by omega)⟩
          rw [hc0'] at g0'
          simpa [Addr.add] using World.cell?_spot g0'
      subst hspot
      refine ⟨b, off, (f i).2, rfl, fun j u hu => ?_, h2⟩
      have hj : j < k := by
        have := (List.getElem?_eq_some_iff.1 hu).1
        omega
      have := hcell j hj
      rw [hu, Addr.add_mid, Addr.add_mid] at this
      exact this
    · have hlt : i < len := by
        have := (List.getElem?_eq_some_iff.1 hi).1
        simpa using this
      have e : y = (f i).1 := by simpa [hlt] using hi.symm
      subst e
      exact ⟨D i, by simp [hlt], (hf i hlt).2.2⟩

/-- An array of strings that reads as these texts holds them, cell for cell. -/
theorem cells_of_strs {H : Type} {enc : TypeId × Value → H} {P : Program} {w : World} {base : Nat} {sp : Nat → Bool} {held : Bool} {fuel : Nat} {t e : TypeId} {n : Nat} {cs : List Value} {L : List (List UInt8)} {p : List MemPlace}
    (ht : P.underlying t = some (.array n e)) (he : P.underlying e = some .string) (hce : P.cellsOf e = 1) (hct : P.cellsOf t = n)
    (h : DataW.trod enc P w base sp held fuel t cs = some (.agg (L.map fun l => .lit (.string l)), p)) : cs = L.map fun l => Value.string ⟨l.toArray⟩ := by
  cases fuel with
  | zero => simp [DataW.trod] at h
  | succ fuel =>
    simp only [DataW.trod, ht, hce, hct, Nat.mul_one] at h
    split at h
    · rename_i hl
      obtain ⟨xs, hm, hx⟩ := Option.map_eq_some_iff.1 h
      have hxs : xs.map (·.1) = L.map fun l => (DataW.lit (.string l) : DataW H) := by
        have := congrArg Prod.fst hx
        simpa using this
      have hxl : xs.length = n := by simpa using Lib.mapM_length hm
      have hzl : L.length = n := by
        have := congrArg List.length hxs
        simp at this
        omega
      apply List.ext_getElem?
      intro i
      by_cases hi : i < n
      · obtain ⟨b, hb, hf⟩ := Lib.mapM_at hm i i (by simp [hi])
        obtain ⟨z, hc, rfl, _⟩ := DataW.trod_string he hf
        have h1 : cs[i]? = some (.string z) := by
          have := congrArg (·[0]?) hc
          simpa [List.getElem?_take, List.getElem?_drop] using this
        have h2 : (xs.map (·.1))[i]? = some (DataW.lit (.string z.data.toList) : DataW H) := by simp [hb]
        rw [hxs] at h2
        simp only [List.getElem?_map, Option.map_eq_some_iff, DataW.lit.injEq, Lit.string.injEq] at h2
        obtain ⟨z', hz', e⟩ := h2
        rw [h1, List.getElem?_map, hz', e]
        rfl
      · rw [List.getElem?_eq_none (by omega), List.getElem?_eq_none (by simp; omega)]
    · cases h

theorem laid_words {W : World} {cs : Array Value} {fuel : Nat} {p : List MemPlace} (hv : W.var? Tryd.prog "patternbook/book.words" = some cs)
    (h : DataW.trod (fun _ => ()) Tryd.prog W 0 (fun _ => true) false fuel 102 cs.toList = some (Rows.laid_patternbook_book_words, p)) : WordsAt W := by
  have e : cs.toList = wordsL.map fun l => Value.string ⟨l.toArray⟩ := cells_of_strs Tryd.underlying102 Tryd.underlying9 cells9 cellsW h
  intro j v hj
  have hc := World.var?_cell gWords hv j
  rw [Nat.zero_add, hc, ← Array.getElem?_toList, e]
  exact hj

/-- What the rows list of the program's own start. -/
theorem laid_of {W : World} (h : laidMet Tryd.prog Rows.mergeSidesRow.laid W) : WordsAt W := by
  obtain ⟨ps, ⟨g4, t4, c4, f4, p4, q4, hg4, ht4, hv4, hd4, _, _⟩, _⟩ := h
  obtain rfl := Option.some.inj (gWords.symm.trans hg4)
  obtain rfl := Option.some.inj (gWordsT.symm.trans ht4)
  exact laid_words hv4 hd4
end Go.Proofs.YtblkgaoafejefaaDoor
