import Derived.Test.YtnppgeiompimaaaGreatDoorM35
import Derived.Shelf.GgSortFunc.InsertionK
import Derived.Shelf.GgSortFunc.Insertion
import Derived.Laws.Cover1
import Derived.Shelf.SlSortCmp.WholeK
import Derived.Shelf.SlSortCmp.NoneTotal
import Derived.Ground.SlsfProg
import Derived.Sort.Walk0
namespace Go.Proofs.YtnppgeiompimaaaGreatDoor
set_option linter.unusedSimpArgs false
set_option linter.unusedVariables false
set_option linter.unusedSimpArgs false
set_option linter.unusedVariables false
open Go.RowKit Go.Sort Go.Shelf

/-! A row of the call's own, sorted in place. -/
theorem size_putCells (off : Nat) (F c : Array Value) : (putCells id off F c).size = c.size := by simp [putCells]
theorem take_putCells (F c : Array Value) (h : F.size ≤ c.size) : (putCells id 0 F c).toList.take F.size = F.toList := by
  apply List.ext_getElem
  · simp [putCells, h]
  · intro i h1 h2
    have hi : i < F.size := by simpa using h2
    simp [putCells, hi]
theorem heap_putRow (w : World) (g m : Nat) (F cur : Array Value) (e : TypeId) (os : Array Obj) (hg : w.heap[g]? = some (.cells cur e (0, 0))) :
    (grow (putRow id (Sort.ahead w m) g 0 F) os).heap[g]? = some (.cells (putCells id 0 F cur) e (0, 0)) := by
  have hlt := lt_of_heap hg
  simp only [grow, putRow, mapBlock, Sort.heap_ahead]
  rw [Array.getElem?_append_left (by simpa using hlt), Array.getElem?_modify, if_pos rfl, hg]
  rfl
theorem grown_putRow (w : World) (g m : Nat) (F : Array Value) (os : Array Obj) : w.grownBy (grow (putRow id (Sort.ahead w m) g 0 F) os) (some g) := by
  refine ⟨rfl, rfl, rfl, by simp [grow, putRow, mapBlock], fun i hi hn => ?_⟩
  simp only [grow, putRow, mapBlock, Sort.heap_ahead]
  rw [Array.getElem?_append_left (by simpa using hi), Array.getElem?_modify, if_neg (fun e => hn (by rw [e]))]
theorem owns_putRow {w : World} {base : Nat} {e : TypeId} {k n g cap : Nat} {xs : List Value} (h : w.ownsRow base e k (.slice (some ⟨g, 0, none⟩) n cap) n xs) (m : Nat) (F : Array Value) (hF : F.size = n * k) (os : Array Obj) :
    (grow (putRow id (Sort.ahead w m) g 0 F) os).ownsRow base e k (.slice (some ⟨g, 0, none⟩) n cap) n F.toList := by
  refine ⟨by simpa using hF, ?_⟩
  rcases h.2 with ⟨e, _⟩ | ⟨g', cap', cur, ev, hb, hg, hc, hm, hs, ht⟩
  · cases e
  · simp only [Value.slice.injEq, Option.some.injEq, Addr.mk.injEq] at ev
    obtain ⟨⟨e1, _⟩, _, e2⟩ := ev
    subst e1 e2
    have hle : F.size ≤ cur.size := by rw [hF, hs]; exact Nat.mul_le_mul_right k hc
    exact .inr ⟨g, cap, putCells id 0 F cur, rfl, hb, heap_putRow w g m F cur e os hg, hc, hm, by rw [size_putCells, hs], by rw [← hF, take_putCells F cur hle]⟩

theorem flat_get {α : Type} {k : Nat} (enc : α → List Value) (hk : ∀ x, (enc x).length = k) : ∀ (l : List α) (i j : Nat) (x : α), l[i]? = some x → j < k → (l.flatMap enc)[i * k + j]? = (enc x)[j]?
  | [], i, j, x, hx, hj => by simp at hx
  | y :: l, 0, j, x, hx, hj => by
    simp only [List.getElem?_cons_zero, Option.some.injEq] at hx
    subst hx
    rw [List.flatMap_cons, Nat.zero_mul, Nat.zero_add, List.getElem?_append_left (by rw [hk]; exact hj)]
  | y :: l, i + 1, j, x, hx, hj => by
    rw [List.flatMap_cons, List.getElem?_append_right (by rw [hk, Nat.add_mul]; omega), hk, show (i + 1) * k + j - k = i * k + j by rw [Nat.add_mul]; omega]
    exact flat_get enc hk l i j x (by simpa using hx) hj
theorem flat_len {α : Type} {k : Nat} (enc : α → List Value) (hk : ∀ x, (enc x).length = k) (l : List α) : (l.flatMap enc).length = l.length * k := by
  induction l with
  | nil => simp
  | cons x l ih => rw [List.flatMap_cons, List.length_append, ih, hk, List.length_cons, Nat.add_mul]; omega
theorem flatK_list {α : Type} [Inhabited α] {k : Nat} (enc : α → List Value) (hk : ∀ x, (enc x).length = k) (d : Array α) : (flatK enc k d).toList = d.toList.flatMap enc := by
  apply List.ext_getElem?
  intro t
  by_cases ht : t < d.size * k
  · have k0 : 0 < k := by rcases Nat.eq_zero_or_pos k with h | h; · subst h; simp at ht
                          · exact h
    have h1 : t / k < d.size := (Nat.div_lt_iff_lt_mul k0).2 ht
    have h2 : t % k < k := Nat.mod_lt _ k0
    have h3 := flat_get enc hk d.toList (t / k) (t % k) (d[t / k]) (by simp [h1]) h2
    rw [show t / k * k + t % k = t by rw [Nat.mul_comm]; exact Nat.div_add_mod t k] at h3
    rw [h3]
    have h4 := get_flatK enc k d t ht
    rw [getElem!_pos d (t / k) h1] at h4
    rw [getElem!_pos (flatK enc k d) t (by simpa using ht)] at h4
    have h5 : t % k < (enc d[t / k]).length := by rw [hk]; exact h2
    rw [getElem!_pos (enc d[t / k]) (t % k) h5] at h4
    simp only [Array.getElem?_toList]
    rw [Array.getElem?_eq_getElem (by simpa using ht), h4, List.getElem?_eq_getElem h5]
  · rw [List.getElem?_eq_none (by simpa using ht), List.getElem?_eq_none (by rw [flat_len enc hk]; simpa using ht)]

theorem holds_of_owns {w : World} {base : Nat} {e : TypeId} {k n g cap : Nat} (F : Array Value) (h : w.ownsRow base e k (.slice (some ⟨g, 0, none⟩) n cap) n F.toList) : Holds id w g 0 F := by
  rcases h.2 with ⟨e, _⟩ | ⟨g', cap', cur, ev, hb, hg, hc, hm, hs, ht⟩
  · cases e
  · simp only [Value.slice.injEq, Option.some.injEq, Addr.mk.injEq] at ev
    obtain ⟨⟨e1, _⟩, _, e2⟩ := ev
    subst e1 e2
    intro j hj
    have hl := h.1
    simp only [Array.length_toList] at hl
    refine ⟨?_, frozen_of_row w g _ cur e hg⟩
    rw [cell_of_row w g _ cur e _ hg, Nat.zero_add]
    have : F.toList[j]? = some F[j] := by simp [hj]
    rw [← ht, List.getElem?_take, if_pos (by omega)] at this
    rw [getElem!_pos F j hj]
    simpa using this

/-- What a sort makes of a row of the call's own: what it holds then, and that nothing else has turned. -/
theorem sortedK_own {α : Type} [Inhabited α] {w : World} {base : Nat} {e : TypeId} {k : Nat} {v : Value} {l : List α} (enc : α → List Value) (hk : ∀ x, (enc x).length = k) (h : w.ownsRow base e k v l.length (l.flatMap enc)) (hne : l ≠ []) :
    ∃ g cap, v = .slice (some ⟨g, 0, none⟩) l.length cap ∧ g < w.heap.size ∧ HoldsK enc k w g 0 l.toArray ∧
      ∀ (d' : Array α) (m : Nat) (os : Array Obj), d'.size = l.length → (sortWorldK enc k w g 0 m d' os).ownsRow base e k v l.length (d'.toList.flatMap enc) ∧ w.grownBy (sortWorldK enc k w g 0 m d' os) (some g) := by
  have h' := h
  rcases h.2 with ⟨_, h0⟩ | ⟨g, cap, cur, rfl, hb, hg, hc, hm, hs, ht⟩
  · exact absurd (List.length_eq_zero_iff.1 h0) hne
  · refine ⟨g, cap, rfl, lt_of_heap hg, ?_, fun d' m os hd => ⟨?_, grown_putRow w g m _ os⟩⟩
    · refine holds_of_owns (e := e) (k := k) (base := base) (n := l.length) (cap := cap) _ ?_
      rw [flatK_list enc hk]; exact h'
    · have := owns_putRow h' m (flatK enc k d') (by rw [size_flatK, hd]) os
      rw [flatK_list enc hk] at this
      exact this
theorem sortWorld_id {α : Type} [Inhabited α] (enc : α → Value) (w : World) (g m : Nat) (d : Array α) (os : Array Obj) : sortWorld enc w g 0 m d os = grow (putRow id (Sort.ahead w m) g 0 (d.map enc)) os := by
  unfold sortWorld putRow
  congr 2
  funext c
  unfold putCells
  congr 1
  funext i x
  by_cases h : i < d.size
  · rw [if_pos ⟨Nat.zero_le _, by omega⟩, if_pos ⟨Nat.zero_le _, by rw [Array.size_map]; omega⟩, Nat.sub_zero, getElem!_pos d i h, getElem!_pos (d.map enc) i (by simpa using h)]
    simp
  · rw [if_neg (by omega), if_neg (by rw [Array.size_map]; omega)]
theorem sorted1_own {α : Type} [Inhabited α] {w : World} {base : Nat} {e : TypeId} {v : Value} {l : List α} (enc : α → Value) (h : w.ownsRow base e 1 v l.length (l.flatMap fun x => [enc x])) (hne : l ≠ []) :
    ∃ g cap, v = .slice (some ⟨g, 0, none⟩) l.length cap ∧ g < w.heap.size ∧ Holds enc w g 0 l.toArray ∧
      ∀ (d' : Array α) (m : Nat) (os : Array Obj), d'.size = l.length → (sortWorld enc w g 0 m d' os).ownsRow base e 1 v l.length (d'.toList.flatMap fun x => [enc x]) ∧ w.grownBy (sortWorld enc w g 0 m d' os) (some g) := by
  have hm' : ∀ l : List α, (l.flatMap fun x => [enc x]) = (l.toArray.map enc).toList := fun l => by
    simp [List.flatMap_def]
    induction l with
    | nil => rfl
    | cons x l ih => simp [ih]
  have h' := h
  rcases h.2 with ⟨_, h0⟩ | ⟨g, cap, cur, rfl, hb, hg, hc, hm, hs, ht⟩
  · exact absurd (List.length_eq_zero_iff.1 h0) hne
  · refine ⟨g, cap, rfl, lt_of_heap hg, ?_, fun d' m os hd => ?_⟩
    · have := holds_of_owns (e := e) (k := 1) (base := base) (n := l.length) (cap := cap) (g := g) (w := w) (l.toArray.map enc) (by rw [← hm' l]; exact h')
      intro j hj
      have h2 := this j (by simpa using hj)
      rw [getElem!_pos (l.toArray.map enc) j (by simpa using hj)] at h2
      rw [getElem!_pos l.toArray j hj]
      simpa using h2
    · rw [sortWorld_id]
      refine ⟨?_, grown_putRow w g m _ os⟩
      have := owns_putRow h' m (d'.map enc) (by simp [hd]) os
      rw [hm' d'.toList]
      simpa using this
end Go.Proofs.YtnppgeiompimaaaGreatDoor

namespace Go.Proofs
open Go.Shelf Go.RowKit Go.Lib Go.Sort
end Go.Proofs
namespace Go.Proofs.YtnppgeiompimaaaGreatDoor
set_option linter.unusedSimpArgs false
set_option linter.unusedVariables false
open Go.RowKit Go.Sort Go.Shelf Go.Lib

def SV.blk (s : SV) : Option Nat := s.a.map (·.block)
theorem isNaNS_any (x : ByteArray) (w : World) : Calls Tryz.prog 103 #[.string x] w fun e w' => e = .returned (.bool false) ∧ w' = w := by
  go_enter Tryz.func103, Tryz.ntmps103
  go_wp2
  go_ret
  exact ⟨by simp, rfl⟩
def cmpS (x y : ByteArray) : Int := if Op.bytesLess x.toList y.toList then -1 else if x.toList == y.toList then 0 else 1
theorem compareS_any (x y : ByteArray) (w : World) : Calls Tryz.prog 56 #[.string x, .string y] w fun e w' => e = .returned (.int .i64 (cmpS x y)) ∧ w' = w := by
  go_enter Tryz.func56, Tryz.ntmps56
  go_wp2_with (go_at_call 103; refine (isNaNS_any _ _).mono ?_; rintro e w' ⟨rfl, hw⟩; rw [hw])
  all_goals go_ret
  all_goals (refine ⟨?_, rfl⟩; unfold cmpS)
  all_goals simp_all
theorem lt_cmpS {α : Type} (key : α → ByteArray) (x y : α) : ltOf (fun x y : α => cmpS (key x) (key y)) x y = ltStr (key x).toList (key y).toList := by
  unfold ltOf cmpS ltStr
  simp only [bytesLess_eq]
  by_cases h : (key x).toList < (key y).toList
  · simp [h]
  · simp only [h, decide_false, Bool.false_eq_true, if_false]
    split <;> decide
theorem swo_cmpS {α : Type} (key : α → ByteArray) : SWO (ltOf fun x y : α => cmpS (key x) (key y)) where
  irrefl x := by rw [lt_cmpS]; exact swo_ltStr.irrefl _
  trans x y z h1 h2 := by rw [lt_cmpS] at *; exact swo_ltStr.trans _ _ _ h1 h2
  ntrans x y z h1 h2 := by rw [lt_cmpS] at *; exact swo_ltStr.ntrans _ _ _ h1 h2
theorem lt_cmpI {α : Type} (key : α → Int) (x y : α) : ltOf (fun x y : α => Lib.compareInt (key x) (key y)) x y = decide (key x < key y) := by
  unfold ltOf Lib.compareInt
  by_cases h1 : key x < key y
  · simp [h1]
  · by_cases h2 : key y < key x <;> simp [h1, h2]
theorem swo_cmpI {α : Type} (key : α → Int) : SWO (ltOf fun x y : α => Lib.compareInt (key x) (key y)) where
  irrefl x := by rw [lt_cmpI]; simp
  trans x y z h1 h2 := by rw [lt_cmpI] at *; simp at *; omega
  ntrans x y z h1 h2 := by rw [lt_cmpI] at *; simp at *; omega

theorem grow_drew0 (w : World) (o o' : Obj) : (w.alloc o).alloc o' = grow (w.drewN 0) #[o, o'] := by
  rw [alloc_eq_grow, alloc_eq_grow, grow_grow]; rfl

theorem perm_list {α : Type} [Inhabited α] {l : List α} {d' : Array α} (h : PermIn 0 l.toArray.size l.toArray d') : d'.toList.Perm l ∧ d'.size = l.length := by
  obtain ⟨h1, _, h3⟩ := h
  have e : d'.extract 0 l.toArray.size = d' := by rw [← h1]; simp
  rw [e] at h3
  simpa using And.intro h3 h1
theorem sorted_list {α : Type} [Inhabited α] {lt : α → α → Bool} {n : Nat} {d' : Array α} (h : SortedIn lt 0 n d') (hn : d'.size = n) : d'.toList.Pairwise fun x y => lt y x = false := by
  rw [List.pairwise_iff_getElem]
  intro i j hi hj hij
  have := h i j (Nat.zero_le _) hij (by simpa [hn] using hj)
  rw [getElem!_pos d' j (by simpa using hj), getElem!_pos d' i (by simpa using hi)] at this
  simpa using this

/-- slices.SortFunc on a row of the call's own, at structs. -/
theorem sortK_own {α : Type} [Inhabited α] {ρ : Ren} (L : SlLaysF0.n6 Tryz.prog ρ) (k : Nat) (aE : ∀ w, (isAgg (ρ.t 24)).run Tryz.prog w = .ok true w) (zE : ∀ w, (Go.sizeOf (ρ.t 24)).run Tryz.prog w = .ok k w) (enc : α → List Value) (hk : ∀ x, (enc x).length = k) (h1 : ∀ x, ∀ v ∈ enc x, v.oneCell' = true) (cf : α → α → Int) (hO : SWO (ltOf cf)) (g : Nat)
    (eg : ∀ args w, (callFunc g args).run Tryz.prog w = .ok (.enter g args) w) (hcmp : ∀ x y W, Calls Tryz.prog g #[.agg (enc x).toArray, .agg (enc y).toArray] W fun e w' => e = .returned (.int .i64 (cf x y)) ∧ ∃ q os', w' = grow (W.drewN q) os')
    {w : World} {base : Nat} {e : TypeId} {s : SV} {l : List α} (ho : w.ownsRow base e k (.slice s.a s.len s.cap) l.length (l.flatMap enc)) (hsz : l.length < 4611686018427387904) :
    Calls Tryz.prog (ρ.f 6) #[.slice s.a s.len s.cap, .func (.func g) #[] #[]] w fun r w' => r = .returned (.tuple #[]) ∧ ∃ l' : List α, l'.Perm l ∧ l'.Pairwise (fun x y => ltOf cf y x = false) ∧ w'.ownsRow base e k (.slice s.a s.len s.cap) l'.length (l'.flatMap enc) ∧ w.grownBy w' s.blk := by
  obtain ⟨a, n, cap⟩ := s
  by_cases hne : l = []
  · subst hne
    have hn : n = 0 := by
      rcases ho.2 with ⟨ev, _⟩ | ⟨g', cap', cur, ev, _⟩
      · simp only [Value.slice.injEq] at ev; exact ev.2.1
      · simp only [Value.slice.injEq] at ev; simpa using ev.2.1
    subst hn
    exact (AnyF.slices_SortFunc_none L a cap _ w).mono fun r w' ⟨h1, h2⟩ => ⟨h1, [], List.Perm.refl _, List.Pairwise.nil, by rw [h2]; exact ho, by rw [h2]; exact ⟨rfl, rfl, rfl, Nat.le_refl _, fun _ _ _ => rfl⟩⟩
  · obtain ⟨b, cap', ev, hb, hH, hput⟩ := sortedK_own enc hk ho hne
    simp only [Value.slice.injEq] at ev
    obtain ⟨rfl, rfl, rfl⟩ := ev
    refine (AnyQ.slices_SortFunc L k aE zE enc hk h1 cf hO g #[] b 0 cap l.toArray w eg (fun m os dk hd x y => by rw [Array.append_empty]; exact hcmp x y _) hH hb (by simpa using hsz)).mono ?_
    rintro r w' ⟨hr, d', m, os, hp, hs, rfl⟩
    obtain ⟨hp1, hp2⟩ := perm_list hp
    obtain ⟨hq1, hq2⟩ := hput d' m os hp2
    refine ⟨hr, d'.toList, hp1, sorted_list hs (by simpa using hp2), ?_, hq2⟩
    rw [show d'.toList.length = l.length from by simpa using hp2]
    exact hq1
end Go.Proofs.YtnppgeiompimaaaGreatDoor

