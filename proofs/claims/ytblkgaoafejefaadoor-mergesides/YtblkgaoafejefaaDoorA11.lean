import Derived.Test.YtblkgaoafejefaaDoorA9
import Derived.Test.YtblkgaoafejefaaDoorA10
import Derived.Test.YtblkgaoafejefaaDoorG2
namespace Go.Proofs.YtblkgaoafejefaaDoor
set_option linter.unusedSimpArgs false
set_option linter.unusedVariables false
open Go.RowKit

def flawP (p : ByteArray × Int) : List Value := flawC p.1 p.2
def FlawsAt (w : World) (s : SV) (l : List (ByteArray × Int)) : Prop := SliceAt 3 (fun _ cs p => cs = flawP p) w s l
theorem FlawsAt.ext {w w' : World} {s : SV} {l : List (ByteArray × Int)} (h : FlawsAt w s l) (he : Ext w w') : FlawsAt w' s l := SliceAt.ext h he fun _ _ h => h
theorem one_flawP (p : ByteArray × Int) : ∀ u ∈ flawP p, u.oneCell' = true := one_flaw p.1 p.2
theorem slice_of_owns {α : Type} {k : Nat} {w : World} {base : Nat} {e : TypeId} {n : Nat} {l : List α} (enc : α → List Value) (hk : ∀ x, (enc x).length = k) {s : SV} (h : w.ownsRow base e k (.slice s.a s.len s.cap) n (l.flatMap enc)) (hn : n = l.length) : SliceAt k (fun _ cs x => cs = enc x) w s l := by
  obtain ⟨s', e, h'⟩ := sliceAt_of_owns enc hk h hn
  obtain ⟨a, b, c⟩ := s
  obtain ⟨a', b', c'⟩ := s'
  simp only [Value.slice.injEq] at e
  obtain ⟨rfl, rfl, rfl⟩ := e
  exact h'
theorem TyRows.at {w : World} {base : Nat} {tv : TV} {t : TypeM} (h : TyRows w base tv t) : TypeAt w tv t :=
  ⟨h.name, h.enum, slice_of_owns FieldM.cells (fun _ => rfl) h.fields rfl, slice_of_owns encI (fun _ => rfl) h.gone rfl, slice_of_owns ItemM.cells (fun _ => rfl) h.items rfl, ok_of_owns h.fields, ok_of_owns h.gone, ok_of_owns h.items⟩
def tvCells (outs : List (TV × TypeM)) : List Value := outs.flatMap fun p => p.1.cells
def tyOf (outs : List (TV × TypeM)) : BookM := outs.map (·.2)
theorem book_of_rows {w : World} {base : Nat} {sx : SV} {outs : List (TV × TypeM)} (ho : w.ownsRow base 46 5 (.slice sx.a sx.len sx.cap) outs.length (tvCells outs)) (hr : ∀ p ∈ outs, TyRows w base p.1 p.2) : BookAt w sx (tyOf outs) := by
  have h := slice_of_owns (fun p : TV × TypeM => p.1.cells) (fun _ => rfl) ho rfl
  refine ⟨by unfold tyOf; rw [List.length_map]; exact h.1, fun i x hx => ?_⟩
  unfold tyOf at hx
  rw [List.getElem?_map] at hx
  cases hp : outs[i]? with
  | none => rw [hp] at hx; cases hx
  | some p =>
    rw [hp] at hx
    cases hx
    obtain ⟨b, o, cs, h1, h2, rfl⟩ := h.2 i p hp
    exact ⟨b, o, _, h1, h2, p.1, rfl, (hr p (List.mem_of_getElem? hp)).at⟩
/-- What comes of the first names. -/
def flK (was a b : BookM) (k : Nat) : List (ByteArray × Int) := flawsOf was a b ((namesM was a b).take k)
def outK (was a b : BookM) (k : Nat) : BookM := outOf was a b ((namesM was a b).take k)
theorem flK_zero (was a b : BookM) : flK was a b 0 = [] := rfl
theorem outK_zero (was a b : BookM) : outK was a b 0 = [] := rfl
theorem flK_succ (was a b : BookM) {k : Nat} (h : k < (namesM was a b).length) : flK was a b (k + 1) = flK was a b k ++ (mergedM (namesM was a b)[k] (tsOf was a b (namesM was a b)[k])).2.2.map fun i => ((namesM was a b)[k], i) := by
  unfold flK flawsOf
  rw [List.take_succ_eq_append_getElem h, List.flatMap_append, List.flatMap_cons, List.flatMap_nil, List.append_nil]
theorem outK_succ (was a b : BookM) {k : Nat} (h : k < (namesM was a b).length) : outK was a b (k + 1) = outK was a b k ++ (if (mergedM (namesM was a b)[k] (tsOf was a b (namesM was a b)[k])).2.1 = true then [(mergedM (namesM was a b)[k] (tsOf was a b (namesM was a b)[k])).1] else []) := by
  unfold outK outOf
  rw [List.take_succ_eq_append_getElem h, List.filterMap_append]
  congr 1
  rw [List.filterMap_cons]
  split
  · rename_i h1
    split at h1
    · cases h1
    · rename_i h2; rw [if_neg h2]; rfl
  · rename_i y h1
    split at h1
    · rename_i h2; rw [if_pos h2]; cases h1; rfl
    · cases h1
theorem flK_all (was a b : BookM) : flK was a b (namesM was a b).length = flawsOf was a b (namesM was a b) := by unfold flK; rw [List.take_length]
theorem outK_all (was a b : BookM) : outK was a b (namesM was a b).length = outOf was a b (namesM was a b) := by unfold outK; rw [List.take_length]
theorem good_items {ts : BookM} (h : goodM ts = 0) (nm : ByteArray) : (findZ ts nm).items.length ≤ 1000 := by
  unfold findZ
  cases hf : findM ts nm with
  | none => simp [TypeM.zero]
  | some t =>
    have g := (goodM_out h).2.2 t (findM_mem hf)
    cases he : t.enum with
    | true => have := (g.enum he).2.2.2.1; simp only [Option.getD_some]; omega
    | false => rw [Option.getD_some, (g.msg he).1]; simp
theorem merged_len (nm : ByteArray) (s : TS) (n0 : s.was.items.length ≤ 1000) (n1 : s.a.items.length ≤ 1000) (n2 : s.b.items.length ≤ 1000) : (mergedM nm s).2.2.length ≤ 3030 := by
  have h1 := flawsTo_len s 30
  have h2 := Nat.le_trans (itFlaws_len s (numbersM s)) (numbers_len s n0 n1 n2)
  unfold mergedM
  split
  · simp
  · simp only
    split
    · simp
    · unfold flawIds; rw [List.length_append]; omega
theorem names_le {was a b : BookM} (h1 : goodM was = 0) (h2 : goodM a = 0) (h3 : goodM b = 0) : (namesM was a b).length ≤ 12 := by
  unfold namesM
  refine Nat.le_trans (unions_len _ _) ?_
  have := (goodM_out h1).1
  have := (goodM_out h2).1
  have := (goodM_out h3).1
  simp; omega
theorem flK_len {was a b : BookM} (h1 : goodM was = 0) (h2 : goodM a = 0) (h3 : goodM b = 0) : ∀ k, k ≤ (namesM was a b).length → (flK was a b k).length ≤ 3030 * k
  | 0, _ => by simp [flK_zero]
  | k + 1, h => by
    have ih := flK_len h1 h2 h3 k (by omega)
    rw [flK_succ was a b (by omega), List.length_append, List.length_map]
    have := merged_len (namesM was a b)[k] (tsOf was a b (namesM was a b)[k]) (good_items h1 _) (good_items h2 _) (good_items h3 _)
    omega
theorem outK_len (was a b : BookM) (k : Nat) : (outK was a b k).length ≤ k := by
  unfold outK outOf
  refine Nat.le_trans (List.length_filterMap_le _ _) ?_
  rw [List.length_take]; omega
theorem find_small' {ts : BookM} (hn : ts.Small) (name : ByteArray) : (findZ ts name).Small := by
  unfold findZ
  cases hf : findM ts name with
  | none => exact ⟨by decide, by decide, by decide, by decide, fun x hx => absurd hx List.not_mem_nil, fun x hx => absurd hx List.not_mem_nil⟩
  | some t => exact hn.2 t (findM_mem hf)
theorem fieldZ_mem {t : TypeM} {id : Int} {f : FieldM} (h : fieldM t id = some f) : f ∈ t.fields := List.mem_of_find?_eq_some h
theorem itemZ_mem {t : TypeM} {n : Int} {i : ItemM} (h : itemM t n = some i) : i ∈ t.items := List.mem_of_find?_eq_some h
theorem typeOut_fits (nm : ByteArray) (s : TS) (en : Bool) (hnm : nm.size ≤ 1048576) (hw : s.was.Small) (ha : s.a.Small) (hb : s.b.Small) (n0 : s.was.items.length ≤ 1000) (n1 : s.a.items.length ≤ 1000) (n2 : s.b.items.length ≤ 1000) : (typeOut nm s en).Small := by
  refine ⟨hnm, ?_, ?_, ?_, fun x hx => ?_, fun x hx => ?_⟩
  · have := fieldsTo_len s 30; show (fieldsTo s 30).length ≤ _; omega
  · have := goneTo_len s 30; show (goneTo s 30).length ≤ _; omega
  · have := Nat.le_trans (itItems_len s (numbersM s)) (numbers_len s n0 n1 n2); show (itemsOf s (numbersM s)).length ≤ _; omega
  · have hx' : x ∈ fieldsTo s 30 := hx
    unfold fieldsTo at hx'
    obtain ⟨id, _, h⟩ := List.mem_filterMap.1 hx'
    split at h
    · cases h
    · cases hk : idKept s id with
      | none => rw [hk] at h; cases h
      | some o =>
        rw [hk] at h
        simp only [Option.getD_some] at h
        subst h
        rcases settle_mem hk with e | e
        · exact ha.fname x (fieldZ_mem e.symm)
        · exact hb.fname x (fieldZ_mem e.symm)
  · have hx' : x ∈ itemsOf s (numbersM s) := hx
    unfold itemsOf at hx'
    obtain ⟨id, _, h⟩ := List.mem_filterMap.1 hx'
    cases hk : itKept s id with
    | none => rw [hk] at h; cases h
    | some o =>
      rw [hk] at h
      simp only [Option.getD_some] at h
      subst h
      rcases settle_mem hk with e | e
      · exact ha.iname x (itemZ_mem e.symm)
      · exact hb.iname x (itemZ_mem e.symm)
theorem out_fits {was a b : BookM} (h1 : goodM was = 0) (h2 : goodM a = 0) (h3 : goodM b = 0) : (outOf was a b (namesM was a b)).Small := by
  have s1 := good_small h1
  have s2 := good_small h2
  have s3 := good_small h3
  refine ⟨?_, fun t ht => ?_⟩
  · have := names_le h1 h2 h3
    exact Nat.le_trans (List.length_filterMap_le _ _) (by omega)
  · unfold outOf at ht
    obtain ⟨n, hn, h⟩ := List.mem_filterMap.1 ht
    have hsz : n.size ≤ 1048576 := by
      rcases names_in.1 hn with h | h | h
      · obtain ⟨t, ht, rfl⟩ := List.mem_map.1 h; exact (s1.2 t ht).name
      · obtain ⟨t, ht, rfl⟩ := List.mem_map.1 h; exact (s2.2 t ht).name
      · obtain ⟨t, ht, rfl⟩ := List.mem_map.1 h; exact (s3.2 t ht).name
    split at h
    · rename_i hth
      cases h
      unfold mergedM at hth ⊢
      split
      · rename_i hk; rw [hk] at hth; cases hth
      · exact typeOut_fits n _ _ hsz (find_small' s1 n) (find_small' s2 n) (find_small' s3 n) (good_items h1 n) (good_items h2 n) (good_items h3 n)
    · cases h
theorem row1 {w : World} {g : Nat} {t : TypeId} {c0 : Value} (hb : w.heap[g]? = some (.cells #[c0] t (0, 0))) : w.cell? ⟨g, 0, none⟩ = some c0 ∧ ∀ j, w.frozen? ⟨g, j, none⟩ = false :=
  ⟨cell_of_row w g 0 _ t _ hb, fun j => frozen_of_row w g j _ t hb⟩
theorem nil_ok : SV.ok ⟨none, 0, 0⟩ := ⟨Nat.le_refl _, fun _ => rfl⟩
theorem nilBook (w : World) : BookAt w ⟨none, 0, 0⟩ [] := ⟨rfl, fun i x hx => by simp at hx⟩
theorem nilFlaws (w : World) : FlawsAt w ⟨none, 0, 0⟩ [] := ⟨rfl, fun i x hx => by simp at hx⟩
end Go.Proofs.YtblkgaoafejefaaDoor
