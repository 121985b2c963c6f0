import Derived.Test.YtmdpdgldmedebaaGreatDoorM42
import Derived.Test.YtmdpdgldmedebaaGreatDoorCards
import Derived.Test.YtmdpdgldmedebaaGreatDoorTie
import Derived.ProofKit
import Derived.OpenShut
import Derived.Deep.Slices
import Derived.Deep.DeepHandedRow
import Derived.Deep.DeepWitnessRowRef
import Derived.Lib.LaidTab
import Derived.Lib.SmallJoins
namespace Go.Proofs.YtmdpdgldmedebaaGreatDoor
set_option linter.unusedSimpArgs false
set_option linter.unusedVariables false
set_option linter.unusedSimpArgs false
set_option linter.unusedVariables false
open Go.ChangeShapes Go.WideShapes Go.ChangeAt Go.RowKit

theorem ownKnobs : ownKnob Tryz.prog.godebug = none := by kernel_rfl
theorem laidOutAll : laidOutB Tryz.prog = true := by kernel_rfl
theorem gWords : Tryz.prog.globalNamed "patternbook/book.words" = some 0 := by kernel_rfl
theorem gWordsT : (Tryz.prog.globals[0]?).map (·.type) = some 140 := by kernel_rfl
theorem cells9 : Tryz.prog.cellsOf 9 = 1 := by kernel_rfl
theorem cellsW : Tryz.prog.cellsOf 140 = 9 := by kernel_rfl

/-- All arguments read behind a call that only makes new memory as they did before. -/
theorem trodAll_stays {H : Type} {enc : TypeId × Value → H} {P : Program} (hl : laidOutB P = true) {W W' : World} (hb : Below W.heap.size W W') :
    ∀ {ts : List TypeId} {vs : List Value} {ds : List (DataW H)} {ps : List MemPlace}, (∀ t ∈ ts, P.readableRec t = true ∧ t < P.types.size) → DataW.TrodAll enc P W 0 (fun _ => true) true ts vs ds ps → (∀ x ∈ ps, x.block < W.heap.size) →
      DataW.TrodAll enc P W' 0 (fun b => decide (b < W.heap.size)) true ts vs ds ps
  | [], _, _, _, _, h, _ => by
    obtain ⟨rfl, rfl, rfl⟩ := trodAll_nil h
    exact trodAll_mk0
  | t :: ts, _, _, _, ht, h, hlt => by
    obtain ⟨v0, vs0, d0, ds0, p0, q0, rfl, rfl, rfl, h0, r0⟩ := trodAll_cons h
    obtain ⟨h1, h2⟩ := ht t (List.mem_cons_self ..)
    exact trodAll_cons_mk (Below.trod hl h1 h2 h0 hb fun x hx => hlt x (List.mem_append_left _ hx))
      (trodAll_stays hl hb (fun t ht' => ht t (List.mem_cons_of_mem _ ht')) r0 fun x hx => hlt x (List.mem_append_right _ hx))

/-- What a law's row asks behind the call, where it answered true and nothing that was there has turned. -/
theorem post_true {H : Type} {enc : TypeId × Value → H} {P : Program} (hl : laidOutB P = true) {f : Func} {s : ChangeSpec} {fresh handsOn : Bool} {W W' : World} {args : Array Value} {ds gs : List (DataW H)} {before : List MemPlace} {tb : TypeId}
    (hW : DataW.Whole enc P f.params.toList s.vars false W args.toList ds gs before) (hb : Below W.heap.size W W')
    (ht : ∀ t ∈ f.params.toList, P.readableRec t = true ∧ t < P.types.size) (hv : s.vars = []) (hrt : f.resultTypes = #[tb]) (hub : P.underlying tb = some .bool)
    (hres : (s.fn H (ds ++ gs)).results = [.lit (.bool true)]) (hargs : (s.fn H (ds ++ gs)).args = ds) (hvars : (s.fn H (ds ++ gs)).vars = []) :
    s.post enc P f false fresh handsOn false W args (.bool true) W' := by
  have hlt := hW.lt
  have hW' := hW
  obtain ⟨p, q, hA, hV, rfl, _, _⟩ := hW
  rw [hv] at hV
  obtain ⟨rfl, rfl⟩ := trodVars_none hV
  refine ⟨ds, [], p ++ [], [], p, [], hW', ?_, ?_, ?_, hb.frame _, fun h => by simp at h⟩
  · rw [hres, hrt]
    exact trodAll_cons_mk (shut_bool hub true) trodAll_mk0
  · rw [hargs]
    exact trodAll_stays hl hb ht hA fun x hx => hlt x (List.mem_append_left _ hx)
  · rw [hvars, hv]; exact rfl

/-- A slice that is read: its elements, one by one, each told by R, and Q of what it reads as. -/
theorem slice_reads {α H : Type} {enc : TypeId × Value → H} {P : Program} {w : World} {held : Bool} (df : α) (k : Nat) (R : World → List Value → α → Prop) (Q : α → DataW H → Prop) {t e : TypeId} {fuel : Nat} {cs : List Value} {x : DataW H × List MemPlace}
    (ht : P.underlying t = some (.slice e)) (hk : P.cellsOf e = k) (hk0 : 0 < k) (h : DataW.trod enc P w 0 (fun _ => true) held fuel t cs = some x)
    (hel : ∀ (n : Nat) (cs' : List Value) (y : DataW H × List MemPlace), DataW.trod enc P w 0 (fun _ => true) held n e cs' = some y → ∃ a : α, R w cs' a ∧ Q a y.1) :
    ∃ (s : SV) (l : List α) (ds sp : List (DataW H)), cs = [.slice s.a s.len s.cap] ∧ SliceAt k R w s l ∧ s.ok ∧ s.len ≤ maxLen ∧ (x.1 = .nil ∧ l = [] ∨ x.1 = .slice ds sp) ∧ ds.length = l.length ∧ ∀ (i : Nat) (a : α), l[i]? = some a → ∃ d, ds[i]? = some d ∧ Q a d := by
  rcases Go.Deep.open_slice ht h with ⟨rfl, rfl⟩ | ⟨a, len, cap, m, n, D, Pl, rfl, _, hl, hm, hmm, rfl, hx⟩
  · exact ⟨⟨none, 0, 0⟩, [], [], [], rfl, ⟨rfl, fun i a hi => by simp at hi⟩, ⟨Nat.le_refl _, fun _ => rfl⟩, Nat.zero_le _, .inl ⟨rfl, rfl⟩, rfl, fun i a hi => by simp at hi⟩
  · simp only [if_true] at hmm
    subst hmm
    rw [hk] at hx
    have hpt : ∀ i, i < len → ∃ z : α × List Value, w.cells? 0 (a.add (i * k)) k = some z.2 ∧ R w z.2 z.1 ∧ Q z.1 (D i) := fun i hi => by
      obtain ⟨cs', h1, h2⟩ := hx i (by omega)
      obtain ⟨a, h3, h4⟩ := hel n cs' _ h2
      exact ⟨(a, cs'), h1, h3, h4⟩
    have hinh : Inhabited (α × List Value) := ⟨(df, [])⟩
    obtain ⟨f, hf⟩ := Go.Deep.choose_lt hpt
    refine ⟨⟨some a, len, m⟩, (List.range len).map fun i => (f i).1, (List.range len).map D, _, rfl, ⟨by simp, fun i y hi => ?_⟩, ⟨hl, fun h => by simp at h⟩, Nat.le_trans hl hm, .inr rfl, by simp, fun i y hi => ?_⟩
    · have hlt : i < len := by
        have := (List.getElem?_eq_some_iff.1 hi).1
        simpa using this
      have e : y = (f i).1 := by simpa [hlt] using hi.symm
      subst e
      obtain ⟨h1, h2, _⟩ := hf i hlt
      obtain ⟨_, hlen, hcell⟩ := World.cells?_some h1
      obtain ⟨b, off, spot⟩ := a
      have g0 := hcell 0 hk0
      have hspot : spot = none := by
        obtain ⟨c0, hc0⟩ : ∃ c0, (f i).2[0]? = some c0 := ⟨_, List.getElem?_eq_getElem (by omega)⟩
        rw [hc0] at g0
        have := World.cell?_spot g0
        by_cases hi0 : i * k = 0
        · simpa [Addr.add, hi0] using this
        · obtain ⟨h1', h2', _⟩ := hf 0 (by omega)
          obtain ⟨_, hlen', hcell'⟩ := World.cells?_some h1'
          have g0' := hcell' 0 hk0
          obtain ⟨c0', hc0'⟩ : ∃ c0, (f 0).2[0]? = some c0 := ⟨_, List.getElem?_eq_getElem (by omega)⟩
          rw [hc0'] at g0'
          simpa [Addr.add] using World.cell?_spot g0'
      subst hspot
      refine ⟨b, off, (f i).2, rfl, fun j u hu => ?_, h2⟩
      have hj : j < k := by
        have := (List.getElem?_eq_some_iff.1 hu).1
        omega
      have := hcell j hj
      rw [hu, Addr.add_mid, Addr.add_mid] at this
      exact this
    · have hlt : i < len := by
        have := (List.getElem?_eq_some_iff.1 hi).1
        simpa using this
      have e : y = (f i).1 := by simpa [hlt] using hi.symm
      subst e
      exact ⟨D i, by simp [hlt], (hf i hlt).2.2⟩

/-- An array of strings that reads as these texts holds them, cell for cell. -/
theorem cells_of_strs {H : Type} {enc : TypeId × Value → H} {P : Program} {w : World} {base : Nat} {sp : Nat → Bool} {held : Bool} {fuel : Nat} {t e : TypeId} {n : Nat} {cs : List Value} {L : List (List UInt8)} {p : List MemPlace}
    (ht : P.underlying t = some (.array n e)) (he : P.underlying e = some .string) (hce : P.cellsOf e = 1) (hct : P.cellsOf t = n)
    (h : DataW.trod enc P w base sp held fuel t cs = some (.agg (L.map fun l => .lit (.string l)), p)) : cs = L.map fun l => Value.string ⟨l.toArray⟩ := by
  cases fuel with
  | zero => simp [DataW.trod] at h
  | succ fuel =>
    simp only [DataW.trod, ht, hce, hct, Nat.mul_one] at h
    split at h
    · rename_i hl
      obtain ⟨xs, hm, hx⟩ := Option.map_eq_some_iff.1 h
      have hxs : xs.map (·.1) = L.map fun l => (DataW.lit (.string l) : DataW H) := by
        have := congrArg Prod.fst hx
        simpa using this
      have hxl : xs.length = n := by simpa using Lib.mapM_length hm
      have hzl : L.length = n := by
        have := congrArg List.length hxs
        simp at this
        omega
      apply List.ext_getElem?
      intro i
      by_cases hi : i < n
      · obtain ⟨b, hb, hf⟩ := Lib.mapM_at hm i i (by simp [hi])
        obtain ⟨z, hc, rfl, _⟩ := DataW.trod_string he hf
        have h1 : cs[i]? = some (.string z) := by
          have := congrArg (·[0]?) hc
          simpa [List.getElem?_take, List.getElem?_drop] using this
        have h2 : (xs.map (·.1))[i]? = some (DataW.lit (.string z.data.toList) : DataW H) := by simp [hb]
        rw [hxs] at h2
        simp only [List.getElem?_map, Option.map_eq_some_iff, DataW.lit.injEq, Lit.string.injEq] at h2
        obtain ⟨z', hz', e⟩ := h2
        rw [h1, List.getElem?_map, hz', e]
        rfl
      · rw [List.getElem?_eq_none (by omega), List.getElem?_eq_none (by simp; omega)]
    · cases h

theorem laid_words {W : World} {cs : Array Value} {fuel : Nat} {p : List MemPlace} (hv : W.var? Tryz.prog "patternbook/book.words" = some cs)
    (h : DataW.trod (fun _ => ()) Tryz.prog W 0 (fun _ => true) false fuel 140 cs.toList = some (Rows.laid_patternbook_book_words, p)) : WordsAt W := by
  have e : cs.toList = wordsL.map fun l => Value.string ⟨l.toArray⟩ := cells_of_strs Tryz.underlying140 Tryz.underlying9 cells9 cellsW h
  intro j v hj
  have hc := World.var?_cell gWords hv j
  rw [Nat.zero_add, hc, ← Array.getElem?_toList, e]
  exact hj

/-- What the rows list of the program's own start. -/
theorem laid_of {W : World} (h : laidMet Tryz.prog Rows.valueTypesRow.laid W) : WordsAt W := by
  obtain ⟨ps, ⟨_, _, _, _, _, _, _, _, _, _, ⟨g4, t4, c4, f4, p4, q4, hg4, ht4, hv4, hd4, _, _⟩, _⟩, _⟩ := h
  obtain rfl := Option.some.inj (gWords.symm.trans hg4)
  obtain rfl := Option.some.inj (gWordsT.symm.trans ht4)
  exact laid_words hv4 hd4
end Go.Proofs.YtmdpdgldmedebaaGreatDoor

namespace Go.Proofs.YtmdpdgldmedebaaGreatDoor
set_option linter.unusedSimpArgs false
set_option linter.unusedVariables false
open Go.ChangeShapes Go.WideShapes Go.ChangeAt Go.RowKit

theorem bulk_pos {H : Type} (d : DataW H) : 1 ≤ Rows.uptoBulk d := by
  cases d with
  | lit l => cases l <;> simp [Rows.uptoBulk]
  | _ => simp [Rows.uptoBulk]
theorem bulk_mem {H : Type} : ∀ {l : List (DataW H)} {d : DataW H}, d ∈ l → Rows.uptoBulk d ≤ Rows.uptoBulkAll l
  | [], _, h => absurd h List.not_mem_nil
  | x :: r, d, h => by
    rw [Rows.uptoBulkAll]
    rcases List.mem_cons.1 h with rfl | h
    · omega
    · have := bulk_mem h; omega
theorem bulk_len {H : Type} : ∀ l : List (DataW H), l.length ≤ Rows.uptoBulkAll l
  | [] => by simp [Rows.uptoBulkAll]
  | x :: r => by
    rw [Rows.uptoBulkAll, List.length_cons]
    have h1 := bulk_pos x
    have h2 := bulk_len r
    omega
theorem bulk_str {H : Type} (s : ByteArray) : Rows.uptoBulk (DataW.lit (H := H) (.string s.data.toList)) = s.size + 1 := by
  rw [Rows.uptoBulk, Array.length_toList]; rfl

theorem cellsT3 : Tryz.prog.cellsOf 3 = 1 := by kernel_rfl
theorem cells4 : Tryz.prog.cellsOf 4 = 1 := by kernel_rfl
theorem cells22 : Tryz.prog.cellsOf 22 = 1 := by kernel_rfl
theorem cells24 : Tryz.prog.cellsOf 24 = 1 := by kernel_rfl
theorem cells25 : Tryz.prog.cellsOf 25 = 1 := by kernel_rfl
theorem cells26 : Tryz.prog.cellsOf 26 = 1 := by kernel_rfl
theorem cells28 : Tryz.prog.cellsOf 28 = 5 := by kernel_rfl
theorem cells56 : Tryz.prog.cellsOf 56 = 5 := by kernel_rfl
theorem cells47 : Tryz.prog.cellsOf 47 = 1 := by kernel_rfl
theorem cells48 : Tryz.prog.cellsOf 48 = 1 := by kernel_rfl
theorem cells50 : Tryz.prog.cellsOf 50 = 5 := by kernel_rfl
theorem cells71 : Tryz.prog.cellsOf 71 = 2 := by kernel_rfl
theorem list5 {α : Type} {l : List α} (h : l.length = 5) : ∃ a b c d e, l = [a, b, c, d, e] := by
  match l, h with
  | [a, b, c, d, e], _ => exact ⟨a, b, c, d, e, rfl⟩
theorem list2 {α : Type} {l : List α} (h : l.length = 2) : ∃ a b, l = [a, b] := by
  match l, h with
  | [a, b], _ => exact ⟨a, b, rfl⟩

theorem list1 {α : Type} {l : List α} (h : l.length = 1) : ∃ a, l = [a] := by
  match l, h with
  | [a], _ => exact ⟨a, rfl⟩

theorem trod_five {H : Type} {enc : TypeId × Value → H} {P : Program} {w : World} {base : Nat} {spare : Nat → Bool} {held : Bool} {t : TypeId} {f0 f1 f2 f3 f4 : Field} {fuel : Nat} {cs : List Value} {x : DataW H × List MemPlace}
    (ht : P.underlying t = some (.struct #[f0, f1, f2, f3, f4])) (h : DataW.trod enc P w base spare held fuel t cs = some x) :
    ∃ y0 y1 y2 y3 y4 n, x.1 = .agg [y0.1, y1.1, y2.1, y3.1, y4.1] ∧ cs.length = P.cellsOf t ∧ DataW.trod enc P w base spare held n f0.type ((cs.drop f0.offset).take (P.cellsOf f0.type)) = some y0 ∧
      DataW.trod enc P w base spare held n f1.type ((cs.drop f1.offset).take (P.cellsOf f1.type)) = some y1 ∧ DataW.trod enc P w base spare held n f2.type ((cs.drop f2.offset).take (P.cellsOf f2.type)) = some y2 ∧
      DataW.trod enc P w base spare held n f3.type ((cs.drop f3.offset).take (P.cellsOf f3.type)) = some y3 ∧ DataW.trod enc P w base spare held n f4.type ((cs.drop f4.offset).take (P.cellsOf f4.type)) = some y4 := by
  obtain ⟨xs, n, _, rfl, hl, hlen, hf⟩ := DataW.trod_struct ht h
  match xs, hlen with
  | [y0, y1, y2, y3, y4], _ => exact ⟨y0, y1, y2, y3, y4, n, by simp, hl, by simpa using hf 0 f0 rfl, by simpa using hf 1 f1 rfl, by simpa using hf 2 f2 rfl, by simpa using hf 3 f3 rfl, by simpa using hf 4 f4 rfl⟩

section
variable {H : Type} {enc : TypeId × Value → H} {w : World} {held : Bool}

theorem int_reads (n : Nat) (cs : List Value) (y : DataW H × List MemPlace) (h : DataW.trod enc Tryz.prog w 0 (fun _ => true) held n 3 cs = some y) :
    ∃ i : Int, cs = [.int .i64 i] ∧ True := by
  obtain ⟨i, e, _⟩ := DataW.trod_int Tryz.underlying3 h
  exact ⟨i, e, trivial⟩

/-- What a slice's bulk bounds. -/
theorem bulk_slice {α : Type} {x : DataW H} {l : List α} {ds sp : List (DataW H)} {Q : α → DataW H → Prop} (hx : x = .nil ∧ l = [] ∨ x = .slice ds sp) (hl : ds.length = l.length) (hq : ∀ (i : Nat) (a : α), l[i]? = some a → ∃ d, ds[i]? = some d ∧ Q a d) :
    l.length ≤ Rows.uptoBulk x ∧ ∀ a ∈ l, ∃ d, Rows.uptoBulk d ≤ Rows.uptoBulk x ∧ Q a d := by
  rcases hx with ⟨_, rfl⟩ | rfl
  · exact ⟨by simp, fun a ha => absurd ha List.not_mem_nil⟩
  · have hb : Rows.uptoBulkAll ds ≤ Rows.uptoBulk (.slice ds sp) := by rw [Rows.uptoBulk]; omega
    refine ⟨by rw [← hl]; exact Nat.le_trans (bulk_len ds) hb, fun a ha => ?_⟩
    obtain ⟨i, hi, rfl⟩ := List.getElem_of_mem ha
    obtain ⟨d, hd, h⟩ := hq i l[i] (by simp [hi])
    exact ⟨d, Nat.le_trans (bulk_mem (List.mem_of_getElem? hd)) hb, h⟩

theorem field_fits (n : Nat) (cs : List Value) (y : DataW H × List MemPlace) (h : DataW.trod enc Tryz.prog w 0 (fun _ => true) held n 56 cs = some y) :
    ∃ f : FieldM, cs = f.cells ∧ (f.name.size ≤ maxLen ∧ f.type.size ≤ maxLen) := by
  obtain ⟨y0, y1, y2, y3, y4, m, hy, hl, h0, h1, h2, h3, h4⟩ := trod_five Tryz.underlying56 h
  rw [cells56] at hl
  obtain ⟨c0, c1, c2, c3, c4, rfl⟩ := list5 hl
  simp only [cellsT3, cells9] at h0 h1 h2 h3 h4
  obtain ⟨i0, e0, _⟩ := DataW.trod_int Tryz.underlying3 h0
  obtain ⟨s1, e1, _, z1⟩ := DataW.trod_string Tryz.underlying9 h1
  obtain ⟨s2, e2, _, z2⟩ := DataW.trod_string Tryz.underlying9 h2
  obtain ⟨i3, e3, _⟩ := DataW.trod_int Tryz.underlying3 h3
  obtain ⟨i4, e4, _⟩ := DataW.trod_int Tryz.underlying3 h4
  simp at e0 e1 e2 e3 e4
  subst e0 e1 e2 e3 e4
  exact ⟨⟨i0, s1, s2, i3, i4⟩, rfl, z1, z2⟩

theorem item_fits (n : Nat) (cs : List Value) (y : DataW H × List MemPlace) (h : DataW.trod enc Tryz.prog w 0 (fun _ => true) held n 71 cs = some y) :
    ∃ f : ItemM, cs = f.cells ∧ f.name.size ≤ maxLen := by
  obtain ⟨y0, y1, m, hy, hl, h0, h1⟩ := trod_struct2 Tryz.underlying71 h
  rw [cells71] at hl
  obtain ⟨c0, c1, rfl⟩ := list2 hl
  simp only [cellsT3, cells9] at h0 h1
  obtain ⟨s0, e0, _, z0⟩ := DataW.trod_string Tryz.underlying9 h0
  obtain ⟨i1, e1, _⟩ := DataW.trod_int Tryz.underlying3 h1
  simp at e0 e1
  subst e0 e1
  exact ⟨⟨s0, i1⟩, rfl, z0⟩

theorem all_of {α : Type} {l : List α} {ds : List (DataW H)} {Q : α → Prop} (hq : ∀ (i : Nat) (a : α), l[i]? = some a → ∃ d, ds[i]? = some d ∧ Q a) : ∀ a ∈ l, Q a := fun a ha => by
  obtain ⟨i, hi, rfl⟩ := List.getElem_of_mem ha
  obtain ⟨_, _, h⟩ := hq i l[i] (by simp [hi])
  exact h

theorem type_fits (n : Nat) (cs : List Value) (y : DataW H × List MemPlace) (h : DataW.trod enc Tryz.prog w 0 (fun _ => true) held n 50 cs = some y) :
    ∃ t : TypeM, (∃ tv : TV, cs = tv.cells ∧ TypeAt w tv t) ∧ t.Fits := by
  obtain ⟨y0, y1, y2, y3, y4, m, hy, hl, h0, h1, h2, h3, h4⟩ := trod_five Tryz.underlying50 h
  rw [cells50] at hl
  obtain ⟨c0, c1, c2, c3, c4, rfl⟩ := list5 hl
  simp only [cells4, cells9, cells47, cells25, cells48] at h0 h1 h2 h3 h4
  obtain ⟨s0, e0, _, z0⟩ := DataW.trod_string Tryz.underlying9 h0
  obtain ⟨b1, e1, _⟩ := DataW.trod_bool Tryz.underlying4 h1
  obtain ⟨sf, lf, df, pf, ef, hf, okf, zf, _, _, qf⟩ := slice_reads (α := FieldM) FieldM.zero 5 (fun _ cs f => cs = f.cells) (fun f _ => f.name.size ≤ maxLen ∧ f.type.size ≤ maxLen) Tryz.underlying47 cells56 (by decide) h2 field_fits
  obtain ⟨sg, lg, dg, pg, eg, hg, okg, zg, _, _, _⟩ := slice_reads (α := Int) 0 1 (fun _ cs n => cs = [.int .i64 n]) (fun _ _ => True) Tryz.underlying25 cellsT3 (by decide) h3 int_reads
  obtain ⟨si, li, di, pi, ei, hi, oki, zi, _, _, qi⟩ := slice_reads (α := ItemM) ⟨⟨#[]⟩, 0⟩ 2 (fun _ cs f => cs = f.cells) (fun f _ => f.name.size ≤ maxLen) Tryz.underlying48 cells71 (by decide) h4 item_fits
  simp at e0 e1 ef eg ei
  subst e0 e1 ef eg ei
  rw [hf.1] at zf
  rw [hg.1] at zg
  rw [hi.1] at zi
  exact ⟨⟨s0, b1, lf, lg, li⟩, ⟨⟨s0, b1, sf, sg, si⟩, rfl, ⟨rfl, rfl, hf, hg, hi, okf, okg, oki⟩⟩, ⟨z0, zf, zg, zi, all_of qf, all_of qi⟩⟩

theorem book_fits {fuel : Nat} {cs : List Value} {x : DataW H × List MemPlace} (h : DataW.trod enc Tryz.prog w 0 (fun _ => true) held fuel 24 cs = some x) :
    ∃ (s : SV) (ts : BookM), cs = [.slice s.a s.len s.cap] ∧ BookAt w s ts ∧ ts.Fits := by
  obtain ⟨y0, m, hy, hl, h0⟩ := trod_struct1 Tryz.underlying24 h
  rw [cells24] at hl
  obtain ⟨c0, rfl⟩ := list1 hl
  simp only [cells22] at h0
  obtain ⟨s, ts, ds, sp, e, hs, _, z, _, _, q⟩ := slice_reads (α := TypeM) TypeM.zero 5 (fun w cs t => ∃ tv : TV, cs = tv.cells ∧ TypeAt w tv t) (fun t _ => t.Fits) Tryz.underlying22 cells50 (by decide) h0 type_fits
  simp at e
  subst e
  rw [hs.1] at z
  exact ⟨s, ts, rfl, hs, z, all_of q⟩

theorem sum_bulk {g : ValueM → Nat} : ∀ {l : List ValueM} {ds : List (DataW H)}, ds.length = l.length → (∀ (i : Nat) (a : ValueM), l[i]? = some a → ∃ d, ds[i]? = some d ∧ g a ≤ Rows.uptoBulk d) → sumL g l ≤ Rows.uptoBulkAll ds
  | [], _, _, _ => by simp [sumL]
  | x :: r, [], h, _ => by simp at h
  | x :: r, d :: ds, h, hq => by
    obtain ⟨d', h1, h2⟩ := hq 0 x rfl
    simp at h1
    subst h1
    have ih := sum_bulk (g := g) (l := r) (ds := ds) (by simpa using h) fun i a ha => by simpa using hq (i + 1) a (by simpa using ha)
    rw [sumL, Rows.uptoBulkAll]
    omega

/-- A slice that is read, its elements' bulk below a bound. -/
theorem slice_readsB {α : Type} (df : α) (k B : Nat) (R : World → List Value → α → Prop) (Q : α → DataW H → Prop) {t e : TypeId} {fuel : Nat} {cs : List Value} {x : DataW H × List MemPlace}
    (ht : Tryz.prog.underlying t = some (.slice e)) (hk : Tryz.prog.cellsOf e = k) (hk0 : 0 < k) (h : DataW.trod enc Tryz.prog w 0 (fun _ => true) held fuel t cs = some x) (hB : Rows.uptoBulk x.1 ≤ B)
    (hel : ∀ (n : Nat) (cs' : List Value) (y : DataW H × List MemPlace), Rows.uptoBulk y.1 ≤ B → DataW.trod enc Tryz.prog w 0 (fun _ => true) held n e cs' = some y → ∃ a : α, R w cs' a ∧ Q a y.1) :
    ∃ (s : SV) (l : List α) (ds sp : List (DataW H)), cs = [.slice s.a s.len s.cap] ∧ SliceAt k R w s l ∧ s.ok ∧ s.len ≤ maxLen ∧ (x.1 = .nil ∧ l = [] ∨ x.1 = .slice ds sp) ∧ ds.length = l.length ∧ ∀ (i : Nat) (a : α), l[i]? = some a → ∃ d, ds[i]? = some d ∧ Q a d := by
  rcases Go.Deep.open_slice ht h with ⟨rfl, rfl⟩ | ⟨a, len, cap, m, n, D, Pl, rfl, _, hl, hm, hmm, rfl, hx⟩
  · exact ⟨⟨none, 0, 0⟩, [], [], [], rfl, ⟨rfl, fun i a hi => by simp at hi⟩, ⟨Nat.le_refl _, fun _ => rfl⟩, Nat.zero_le _, .inl ⟨rfl, rfl⟩, rfl, fun i a hi => by simp at hi⟩
  · simp only [if_true] at hmm
    subst hmm
    rw [hk] at hx
    have hpt : ∀ i, i < len → ∃ z : α × List Value, w.cells? 0 (a.add (i * k)) k = some z.2 ∧ R w z.2 z.1 ∧ Q z.1 (D i) := fun i hi => by
      obtain ⟨cs', h1, h2⟩ := hx i (by omega)
      have hbk : Rows.uptoBulk (D i) ≤ B := by
        have h5 : Rows.uptoBulk (D i) ≤ Rows.uptoBulkAll ((List.range len).map D) := bulk_mem (List.mem_map.2 ⟨i, by simpa using hi, rfl⟩)
        simp only [Rows.uptoBulk] at hB
        omega
      obtain ⟨a, h3, h4⟩ := hel n cs' _ hbk h2
      exact ⟨(a, cs'), h1, h3, h4⟩
    have hinh : Inhabited (α × List Value) := ⟨(df, [])⟩
    obtain ⟨f, hf⟩ := Go.Deep.choose_lt hpt
    refine ⟨⟨some a, len, m⟩, (List.range len).map fun i => (f i).1, (List.range len).map D, _, rfl, ⟨by simp, fun i y hi => ?_⟩, ⟨hl, fun h => by simp at h⟩, Nat.le_trans hl hm, .inr rfl, by simp, fun i y hi => ?_⟩
    · have hlt : i < len := by
        have := (List.getElem?_eq_some_iff.1 hi).1
        simpa using this
      have e : y = (f i).1 := by simpa [hlt] using hi.symm
      subst e
      obtain ⟨h1, h2, _⟩ := hf i hlt
      obtain ⟨_, hlen, hcell⟩ := World.cells?_some h1
      obtain ⟨b, off, spot⟩ := a
      have g0 := hcell 0 hk0
      have hspot : spot = none := by
        obtain ⟨c0, hc0⟩ : ∃ c0, (f i).2[0]? = some c0 := ⟨_, List.getElem?_eq_getElem (by omega)⟩
        rw [hc0] at g0
        have := World.cell?_spot g0
        by_cases hi0 : i * k = 0
        · simpa [Addr.add, hi0] using this
        · obtain ⟨h1', h2', _⟩ := hf 0 (by omega)
          obtain ⟨_, hlen', hcell'⟩ := World.cells?_some h1'
          have g0' := hcell' 0 hk0
          obtain ⟨c0', hc0'⟩ : ∃ c0, (f 0).2[0]? = some c0 := ⟨_, List.getElem?_eq_getElem (by omega)⟩
          rw [hc0'] at g0'
          simpa [Addr.add] using World.cell?_spot g0'
      subst hspot
      refine ⟨b, off, (f i).2, rfl, fun j u hu => ?_, h2⟩
      have hj : j < k := by
        have := (List.getElem?_eq_some_iff.1 hu).1
        omega
      have := hcell j hj
      rw [hu, Addr.add_mid, Addr.add_mid] at this
      exact this
    · have hlt : i < len := by
        have := (List.getElem?_eq_some_iff.1 hi).1
        simpa using this
      have e : y = (f i).1 := by simpa [hlt] using hi.symm
      subst e
      exact ⟨D i, by simp [hlt], (hf i hlt).2.2⟩


theorem value_reads : ∀ (B n : Nat) (cs : List Value) (y : DataW H × List MemPlace), B ≤ 1048576 → Rows.uptoBulk y.1 ≤ B → DataW.trod enc Tryz.prog w 0 (fun _ => true) held n 28 cs = some y →
    ∃ v : ValueM, ValueAt B w cs v ∧ cntM B v ≤ Rows.uptoBulk y.1 ∧ SmallV B v
  | 0, _, _, y, _, hB, _ => by have := bulk_pos y.1; omega
  | B + 1, n, cs, y, hb, hB, h => by
    obtain ⟨y0, y1, y2, y3, y4, m, hy, hl, h0, h1, h2, h3, h4⟩ := trod_five Tryz.underlying28 h
    rw [cells28] at hl
    obtain ⟨c0, c1, c2, c3, c4, rfl⟩ := list5 hl
    simp only [cellsT3, cells9, cells25, cells26] at h0 h1 h2 h3 h4
    rw [hy] at hB ⊢
    simp only [Rows.uptoBulk, Rows.uptoBulkAll] at hB ⊢
    obtain ⟨i0, e0, _⟩ := DataW.trod_int Tryz.underlying3 h0
    obtain ⟨i1, e1, _⟩ := DataW.trod_int Tryz.underlying3 h1
    obtain ⟨s2, e2, hs2, _⟩ := DataW.trod_string Tryz.underlying9 h2
    have hss : Rows.uptoBulk y2.1 = s2.size + 1 := by rw [hs2]; exact bulk_str s2
    obtain ⟨sg, lg, dg, pg, eg, hg, okg, _, xg, dlg, qg⟩ := slice_reads (α := Int) 0 1 (fun _ cs n => cs = [.int .i64 n]) (fun _ _ => True) Tryz.underlying25 cellsT3 (by decide) h3 int_reads
    obtain ⟨sv, lv, dv, pv, ev, hv, okv, _, xv, dlv, qv⟩ := slice_readsB (α := ValueM) ValueM.zero 5 B (ValueAt B) (fun v d => cntM B v ≤ Rows.uptoBulk d ∧ SmallV B v) Tryz.underlying26 cells28 (by decide) h4 (by omega) (fun n cs' y hyB hy => by
      obtain ⟨v, a1, a2, a3⟩ := value_reads B n cs' y (by omega) hyB hy
      exact ⟨v, a1, a2, a3⟩)
    simp at e0 e1 e2 eg ev
    subst e0 e1 e2 eg ev
    obtain ⟨g1, _⟩ := bulk_slice xg dlg qg
    obtain ⟨v1, _⟩ := bulk_slice xv dlv qv
    have hsum : sumL (cntM B) lv ≤ Rows.uptoBulk y4.1 := by
      rcases xv with ⟨_, rfl⟩ | hx
      · simp [sumL]
      · have h5 := sum_bulk (g := cntM B) dlv fun i a ha => by
          obtain ⟨d, hd, hq⟩ := qv i a ha
          exact ⟨d, hd, hq.1⟩
        rw [hx, Rows.uptoBulk]
        omega
    refine ⟨⟨i0, i1, s2, lg, lv⟩, ⟨sg, sv, rfl, hg, hv, okg, okv⟩, ?_, ?_⟩
    · rw [cntM]; simp only; omega
    · refine ⟨by simp only; omega, by simp only; omega, by simp only; omega, fun x hx => ?_⟩
      obtain ⟨i, hi, rfl⟩ := List.getElem_of_mem hx
      obtain ⟨_, _, hq⟩ := qv i lv[i] (by simp [hi])
      exact hq.2
end
end Go.Proofs.YtmdpdgldmedebaaGreatDoor

namespace Go.Proofs.YtmdpdgldmedebaaGreatDoor
set_option linter.unusedSimpArgs false
set_option linter.unusedVariables false
open Go.ChangeShapes Go.WideShapes Go.ChangeAt Go.RowKit
open Go.ChangeMaps (open_string shut_string)

/-- What the program's start lays, put into a heap. -/
def putCells (h : Array Obj) (g : Nat) (cs : Array Value) : Array Obj := h.modify g fun
  | .cells _ t frozen => .cells cs t frozen
  | o => o
def strRow (L : List (List UInt8)) : Array Value := (L.map fun l => Value.string ⟨l.toArray⟩).toArray
def noInput : Input := ⟨#[], #[], []⟩
end Go.Proofs.YtmdpdgldmedebaaGreatDoor

namespace Go.Proofs.YtmdpdgldmedebaaGreatDoor
set_option linter.unusedSimpArgs false
set_option linter.unusedVariables false
open Go.ChangeShapes Go.WideShapes Go.ChangeAt Go.RowKit

section
variable {H : Type} {enc : TypeId × Value → H} {w : World} {held : Bool}

theorem field_reads (n : Nat) (cs : List Value) (y : DataW H × List MemPlace) (h : DataW.trod enc Tryz.prog w 0 (fun _ => true) held n 56 cs = some y) :
    ∃ f : FieldM, cs = f.cells ∧ f.name.size + f.type.size ≤ Rows.uptoBulk y.1 := by
  obtain ⟨y0, y1, y2, y3, y4, m, hy, hl, h0, h1, h2, h3, h4⟩ := trod_five Tryz.underlying56 h
  rw [cells56] at hl
  obtain ⟨c0, c1, c2, c3, c4, rfl⟩ := list5 hl
  simp only [cellsT3, cells9] at h0 h1 h2 h3 h4
  obtain ⟨i0, e0, _⟩ := DataW.trod_int Tryz.underlying3 h0
  obtain ⟨s1, e1, rfl, _⟩ := DataW.trod_string Tryz.underlying9 h1
  obtain ⟨s2, e2, rfl, _⟩ := DataW.trod_string Tryz.underlying9 h2
  obtain ⟨i3, e3, _⟩ := DataW.trod_int Tryz.underlying3 h3
  obtain ⟨i4, e4, _⟩ := DataW.trod_int Tryz.underlying3 h4
  simp at e0 e1 e2 e3 e4
  subst e0 e1 e2 e3 e4
  refine ⟨⟨i0, s1, s2, i3, i4⟩, rfl, ?_⟩
  rw [hy]
  simp only [Rows.uptoBulk, Rows.uptoBulkAll, Array.length_toList]
  show s1.data.size + s2.data.size ≤ _
  omega

theorem item_reads (n : Nat) (cs : List Value) (y : DataW H × List MemPlace) (h : DataW.trod enc Tryz.prog w 0 (fun _ => true) held n 71 cs = some y) :
    ∃ f : ItemM, cs = f.cells ∧ f.name.size ≤ Rows.uptoBulk y.1 := by
  obtain ⟨y0, y1, m, hy, hl, h0, h1⟩ := trod_struct2 Tryz.underlying71 h
  rw [cells71] at hl
  obtain ⟨c0, c1, rfl⟩ := list2 hl
  simp only [cellsT3, cells9] at h0 h1
  obtain ⟨s0, e0, rfl, _⟩ := DataW.trod_string Tryz.underlying9 h0
  obtain ⟨i1, e1, _⟩ := DataW.trod_int Tryz.underlying3 h1
  simp at e0 e1
  subst e0 e1
  refine ⟨⟨s0, i1⟩, rfl, ?_⟩
  rw [hy]
  simp only [Rows.uptoBulk, Rows.uptoBulkAll, Array.length_toList]
  show s0.data.size ≤ _
  omega

theorem type_reads (n : Nat) (cs : List Value) (y : DataW H × List MemPlace) (h : DataW.trod enc Tryz.prog w 0 (fun _ => true) held n 50 cs = some y) :
    ∃ t : TypeM, (∃ tv : TV, cs = tv.cells ∧ TypeAt w tv t) ∧ (Rows.uptoBulk y.1 ≤ 1048576 → t.Small) := by
  obtain ⟨y0, y1, y2, y3, y4, m, hy, hl, h0, h1, h2, h3, h4⟩ := trod_five Tryz.underlying50 h
  rw [cells50] at hl
  obtain ⟨c0, c1, c2, c3, c4, rfl⟩ := list5 hl
  simp only [cells4, cells9, cells47, cells25, cells48] at h0 h1 h2 h3 h4
  obtain ⟨s0, e0, rfl, _⟩ := DataW.trod_string Tryz.underlying9 h0
  obtain ⟨b1, e1, _⟩ := DataW.trod_bool Tryz.underlying4 h1
  obtain ⟨sf, lf, df, pf, ef, hf, okf, _, xf, dlf, qf⟩ := slice_reads (α := FieldM) FieldM.zero 5 (fun _ cs f => cs = f.cells) (fun f d => f.name.size + f.type.size ≤ Rows.uptoBulk d) Tryz.underlying47 cells56 (by decide) h2 field_reads
  obtain ⟨sg, lg, dg, pg, eg, hg, okg, _, xg, dlg, qg⟩ := slice_reads (α := Int) 0 1 (fun _ cs n => cs = [.int .i64 n]) (fun _ _ => True) Tryz.underlying25 cellsT3 (by decide) h3 int_reads
  obtain ⟨si, li, di, pi, ei, hi, oki, _, xi, dli, qi⟩ := slice_reads (α := ItemM) ⟨⟨#[]⟩, 0⟩ 2 (fun _ cs f => cs = f.cells) (fun f d => f.name.size ≤ Rows.uptoBulk d) Tryz.underlying48 cells71 (by decide) h4 item_reads
  simp at e0 e1 ef eg ei
  subst e0 e1 ef eg ei
  refine ⟨⟨s0, b1, lf, lg, li⟩, ⟨⟨s0, b1, sf, sg, si⟩, rfl, ⟨rfl, rfl, hf, hg, hi, okf, okg, oki⟩⟩, fun hb => ?_⟩
  obtain ⟨a1, a2⟩ := bulk_slice xf dlf qf
  obtain ⟨g1, _⟩ := bulk_slice xg dlg qg
  obtain ⟨i1, i2⟩ := bulk_slice xi dli qi
  rw [hy] at hb
  simp only [Rows.uptoBulk, Rows.uptoBulkAll] at hb
  have hs : s0.data.toList.length = s0.size := by rw [Array.length_toList]; rfl
  refine ⟨by simp only; omega, by simp only; omega, by simp only; omega, by simp only; omega, fun x hx => ?_, fun x hx => ?_⟩
  · obtain ⟨d, hd, hq⟩ := a2 x hx
    have h5 : x.name.size + x.type.size ≤ 1048576 := Nat.le_trans (Nat.le_trans hq hd) (by omega)
    exact ⟨Nat.le_trans (Nat.le_add_right _ _) h5, Nat.le_trans (Nat.le_add_left _ _) h5⟩
  · obtain ⟨d, hd, hq⟩ := i2 x hx
    exact Nat.le_trans (Nat.le_trans hq hd) (by omega)

theorem book_reads {fuel : Nat} {cs : List Value} {x : DataW H × List MemPlace} (h : DataW.trod enc Tryz.prog w 0 (fun _ => true) held fuel 24 cs = some x) :
    ∃ (s : SV) (ts : BookM), cs = [.slice s.a s.len s.cap] ∧ BookAt w s ts ∧ (Rows.uptoBulk x.1 ≤ 1048576 → ts.Small) := by
  obtain ⟨y0, m, hy, hl, h0⟩ := trod_struct1 Tryz.underlying24 h
  rw [cells24] at hl
  obtain ⟨c0, rfl⟩ := list1 hl
  simp only [cells22] at h0
  obtain ⟨s, ts, ds, sp, e, hs, _, _, xs, dl, q⟩ := slice_reads (α := TypeM) TypeM.zero 5 (fun w cs t => ∃ tv : TV, cs = tv.cells ∧ TypeAt w tv t) (fun t d => Rows.uptoBulk d ≤ 1048576 → t.Small) Tryz.underlying22 cells50 (by decide) h0 type_reads
  simp at e
  subst e
  refine ⟨s, ts, rfl, hs, fun hb => ?_⟩
  obtain ⟨b1, b2⟩ := bulk_slice xs dl q
  rw [hy] at hb
  simp only [Rows.uptoBulk, Rows.uptoBulkAll] at hb
  refine ⟨by omega, fun t ht => ?_⟩
  obtain ⟨d, hd, hq⟩ := b2 t ht
  exact hq (by omega)
end
/-- A variable of an integer's type holds some integer. -/
theorem int_of_shape {P : Program} {w : World} {g : Nat} {t : TypeId} {k : IntKind} {zero : Array Value} (h : w.ShapedOpen P) (hg : g < P.globals.size)
    (h0 : ((begin P (fun _ _ => 0) default).world.heap[g]?).bind Obj.row? = some (zero, t)) (hz : zero.size = 1)
    (hb : P.buildable t = true) (hc : P.cellTypes P.depth t = some [t]) (hu : P.underlying t = some (.int k)) : ∃ n : Int, w.cell? ⟨g, 0, none⟩ = some (.int k n) := by
  obtain ⟨cs, hh, hs, hr⟩ := h.1 g zero t hg h0
  obtain ⟨ts, hts, _, hall⟩ := hr hb
  rw [hc] at hts
  cases hts
  have h1 : 0 < cs.size := by omega
  obtain ⟨u, hu', hok⟩ := hall 0 cs[0] (Array.getElem?_eq_getElem h1)
  have hut : u = t := by simpa using hu'.symm
  subst hut
  have hcell : w.cell? ⟨g, 0, none⟩ = some cs[0] := (cell_of_row w g 0 cs u (0, 0) hh).trans (Array.getElem?_eq_getElem h1)
  rw [hcell]
  unfold Cell.ok at hok
  rw [hu] at hok
  cases hv : cs[0] with
  | int k' n =>
    rw [hv] at hok
    simp at hok
    obtain ⟨rfl, _⟩ := hok
    exact ⟨n, rfl⟩
  | _ => rw [hv] at hok; simp at hok
/-- The variable of the table's length is there. -/
theorem max_of {W : World} (h : W.ShapedOpen Tryz.prog) : MaxAt W :=
  int_of_shape (zero := #[.int .i64 0]) (t := 3) h (by decide +kernel) (by kernel_rfl) rfl (by kernel_rfl) (by kernel_rfl) Tryz.underlying3

def acceptL : List Int := [128, 191, 160, 191, 128, 159, 144, 191, 128, 143, 0, 0, 0, 0, 0, 0, 0, 0, 0, 0, 0, 0, 0, 0, 0, 0, 0, 0, 0, 0, 0, 0]
def layHeapZ (h : Array Obj) : Array Obj :=
  putCells (putCells (putCells h 0 (strRow wordsL)) 2 (Go.Pinned.utf8FirstZ.map fun z : Nat => Value.int .u8 (z : Int)).toArray) 3 (acceptL.map fun z => Value.int .u8 z).toArray
end Go.Proofs.YtmdpdgldmedebaaGreatDoor

