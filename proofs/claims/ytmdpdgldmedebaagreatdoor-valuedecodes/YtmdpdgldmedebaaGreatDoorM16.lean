import Derived.Test.YtmdpdgldmedebaaGreatDoorM15
namespace Go.Proofs.YtmdpdgldmedebaaGreatDoor
set_option linter.unusedSimpArgs false
set_option linter.unusedVariables false
set_option linter.unusedSimpArgs false
set_option linter.unusedVariables false
open Go.RowKit

/-- What slices.Insert does with one, on a row of the call's own. -/
def InsP (F : FuncId) (e : TypeId) (size : Nat) : Prop := ∀ (base : Nat) (w : World) (v : Value) (n : Nat) (xs : List Value) (i g : Nat) (news : List Value), w.ownsRow base e size v n xs → i ≤ n → news.length = size → w.heap[g]? = some (.cells news.toArray e (0, 0)) → v.ownBlock ≠ some g → (∀ u ∈ news, u.oneCell' = true) → n < 1048576 → base ≤ w.heap.size → (∀ u ∈ xs, u.oneCell' = true) →
  Calls Tryz.prog F #[v, .int .i64 i, .slice (some ⟨g, 0, none⟩) 1 1] w fun r w' => ∃ v', r = .returned v' ∧ w'.ownsRow base e size v' (n + 1) (xs.take (i * size) ++ news ++ xs.drop (i * size)) ∧ w.grownBy w' v.ownBlock ∧ (v'.ownBlock = v.ownBlock ∨ ∃ g', v'.ownBlock = some g' ∧ w.heap.size ≤ g')
theorem ints_one (l : List Int) : ∀ u ∈ l.flatMap encI, u.oneCell' = true := by
  intro u hu
  obtain ⟨x, _, hx⟩ := List.mem_flatMap.1 hu
  simp [encI] at hx
  subst hx; rfl
theorem css_one {css : List (List Value)} {l : List ValueM} {S : Nat → Prop} {k : Nat} {w : World} (h2 : css.length = l.length) (h3 : ∀ (i : Nat) (c : List Value) (x : ValueM), css[i]? = some c → l[i]? = some x → ValueAtP S k w c x) : ∀ u ∈ css.flatMap (fun c => c), u.oneCell' = true := by
  intro u hu
  obtain ⟨c, hc, hx⟩ := List.mem_flatMap.1 hu
  obtain ⟨i, hi, rfl⟩ := List.getElem_of_mem hc
  exact (h3 i css[i] (l[i]'(by omega)) (by simp) (by simp)).one u hx
theorem ValueAtP.le {S : Nat → Prop} {k m : Nat} {w : World} {cs : List Value} {v : ValueM} (h : ValueAtP S k w cs v) (hm : k ≤ m) : ValueAtP S m w cs v := by
  obtain ⟨d, rfl⟩ := Nat.exists_eq_add_of_le hm
  induction d with
  | zero => exact h
  | succ d ih => exact (ih (by omega)).up
theorem flat5_take {css : List (List Value)} (h5 : ∀ c ∈ css, c.length = 5) : ∀ i : Nat, (css.flatMap fun c => c).take (i * 5) = (css.take i).flatMap fun c => c := by
  induction css with
  | nil => intro i; simp
  | cons d r ih =>
    intro i
    have hd := h5 d (by simp)
    cases i with
    | zero => simp
    | succ i =>
      rw [List.flatMap_cons, List.take_succ_cons, List.flatMap_cons, List.take_append, hd, List.take_of_length_le (by rw [hd]; omega), show (i + 1) * 5 - 5 = i * 5 by omega, ih (fun c hc => h5 c (by simp [hc]))]
theorem flat5_drop {css : List (List Value)} (h5 : ∀ c ∈ css, c.length = 5) : ∀ i : Nat, (css.flatMap fun c => c).drop (i * 5) = (css.drop i).flatMap fun c => c := by
  induction css with
  | nil => intro i; simp
  | cons d r ih =>
    intro i
    have hd := h5 d (by simp)
    cases i with
    | zero => simp
    | succ i =>
      rw [List.flatMap_cons, List.drop_succ_cons, List.drop_append, hd, List.drop_of_length_le (by rw [hd]; omega), List.nil_append, show (i + 1) * 5 - 5 = i * 5 by omega, ih (fun c hc => h5 c (by simp [hc]))]
theorem insAt_get {α : Type} {l : List α} {i j : Nat} {x y : α} (hi : i ≤ l.length) (h : (insAt l i x)[j]? = some y) : (j < i ∧ l[j]? = some y) ∨ (j = i ∧ y = x) ∨ (i < j ∧ l[j - 1]? = some y) := by
  unfold insAt at h
  have ht : (l.take i).length = i := by rw [List.length_take]; omega
  by_cases h1 : j < i
  · rw [List.getElem?_append_left (by omega), List.getElem?_take, if_pos h1] at h
    exact .inl ⟨h1, h⟩
  · rw [List.getElem?_append_right (by omega), ht] at h
    by_cases h2 : j = i
    · subst h2
      simp at h
      exact .inr (.inl ⟨rfl, h.symm⟩)
    · rw [show j - i = (j - i - 1) + 1 by omega, List.getElem?_cons_succ, List.getElem?_drop, show i + (j - i - 1) = j - 1 by omega] at h
      exact .inr (.inr ⟨by omega, h⟩)
theorem VRow.ins {k : Nat} {w w' : World} {base : Nat} {X : Nat → Prop} {ex : Option Nat} {v v' : Value} {l : List ValueM} {css : List (List Value)} {c : List Value} {x : ValueM} {i : Nat} (hi : i ≤ l.length) (hcl : css.length = l.length)
    (h3 : ∀ (i : Nat) (c : List Value) (x : ValueM), css[i]? = some c → l[i]? = some x → ValueAtP (fun b => X b ∧ v.ownBlock ≠ some b ∧ ex ≠ some b ∧ b < w.heap.size) k w c x)
    (hx : ValueAtP (fun b => X b ∧ v.ownBlock ≠ some b ∧ ex ≠ some b ∧ b < w.heap.size) k w c x)
    (ho : w'.ownsRow base 28 5 v' (l.length + 1) ((css.flatMap fun c => c).take (i * 5) ++ c ++ (css.flatMap fun c => c).drop (i * 5))) (hg : w.grownBy w' v.ownBlock) (hw : v'.ownBlock = v.ownBlock ∨ ∃ g', v'.ownBlock = some g' ∧ w.heap.size ≤ g') : VRow k w' base X ex v' (insAt l i x) := by
  have h5 : ∀ c ∈ css, c.length = 5 := fun c hc => by
    obtain ⟨j, hj, rfl⟩ := List.getElem_of_mem hc
    exact (h3 j css[j] l[j] (List.getElem?_eq_getElem hj) (List.getElem?_eq_getElem (by omega))).len
  have key : ∀ {c : List Value} {x : ValueM}, ValueAtP (fun b => X b ∧ v.ownBlock ≠ some b ∧ ex ≠ some b ∧ b < w.heap.size) k w c x → ValueAtP (fun b => X b ∧ v'.ownBlock ≠ some b ∧ ex ≠ some b ∧ b < w'.heap.size) k w' c x := fun h => by
    refine (h.keep fun b ob hb hob => ?_).sub fun b hb => ⟨hb.1, ?_, hb.2.2.1, by have := hg.size; have := hb.2.2.2; omega⟩
    · rw [hg.block b hb.2.2.2 (fun e => hb.2.1 e.symm)]; exact hob
    · rcases hw with e | ⟨g', e, hge⟩
      · rw [e]; exact hb.2.1
      · rw [e]; intro he; cases he; have := hb.2.2.2; omega
  refine ⟨insAt css i c, ?_, by rw [insAt_len css i c (by omega), insAt_len l i x hi, hcl], fun j c' x' hc hx' => ?_⟩
  · rw [insAt_len l i x hi]
    rw [flat5_take h5, flat5_drop h5] at ho
    unfold insAt
    rw [List.flatMap_append, List.flatMap_cons]
    simpa using ho
  · rcases insAt_get (by omega) hc with ⟨a1, a2⟩ | ⟨a1, a2⟩ | ⟨a1, a2⟩
    · rcases insAt_get hi hx' with ⟨b1, b2⟩ | ⟨b1, b2⟩ | ⟨b1, b2⟩
      · exact key (h3 j c' x' a2 b2)
      · omega
      · omega
    · rcases insAt_get hi hx' with ⟨b1, b2⟩ | ⟨b1, b2⟩ | ⟨b1, b2⟩
      · omega
      · subst a2 b2; exact key hx
      · omega
    · rcases insAt_get hi hx' with ⟨b1, b2⟩ | ⟨b1, b2⟩ | ⟨b1, b2⟩
      · omega
      · omega
      · exact key (h3 (j - 1) c' x' a2 b2)
theorem ints_ins (l : List Int) (i : Nat) (x : Int) : (l.flatMap encI).take (i * 1) ++ [.int .i64 x] ++ (l.flatMap encI).drop (i * 1) = (insAt l i x).flatMap encI := by
  have he : ∀ l : List Int, l.flatMap encI = l.map fun x => Value.int .i64 x := fun l => by
    induction l with
    | nil => rfl
    | cons a r ih => rw [List.flatMap_cons, ih]; rfl
  rw [he, he, Nat.mul_one]
  unfold insAt
  simp
end Go.Proofs.YtmdpdgldmedebaaGreatDoor

namespace Go.Proofs.YtmdpdgldmedebaaGreatDoor
set_option linter.unusedSimpArgs false
set_option linter.unusedVariables false
open Go.RowKit

theorem fill_take {lf : FieldM → ValueM} {l : List FieldM} {j : Nat} (h : j < l.length) (p : List Int × List ValueM) : fillM lf (l.take (j + 1)) p = fillStep lf (fillM lf (l.take j) p) l[j] := by
  rw [List.take_succ_eq_append_getElem h]
  unfold fillM
  rw [List.foldl_append]; rfl
/-- What the drawn statement of filled reads. -/
def FlS (A c F : Nat) (sb : SV) (vL : Value) (f : FieldM) (w : World) : Prop := LmS A c F sb vL f w

set_option maxHeartbeats 12800000 in
set_option maxRecDepth 10000 in
theorem filled_of (hI : InsP 84 3 1) (hV : InsP 85 28 5) (sb : SV) (ts : BookM) (hn : ts.Small) (tv : TV) (t : TypeM) (wb : World) (hb : BookAt wb sb ts) (ht : TypeAt wb tv t) (htl : t.fields.length ≤ 5) (hle : ∀ f ∈ t.fields, f.rule = 1 → LeF ts (LeOk ts 4) f)
    (K : Nat) (hK : 5 ≤ K) (base : Nat) (X : Nat → Prop) (hX : ∀ b, base ≤ b → X b) (hXb : ∀ b, X b → base ≤ b) (hwb : wb.heap.size ≤ base) (vk vn : Int) (vs : ByteArray) (si sl : SV) (ids : List Int) (l : List ValueM) (w : World) (hxb : Ext wb w) (hbase : base ≤ w.heap.size)
    (hlen : ids.length = l.length) (hsm : ids.length ≤ 1000000) (hso : ids.Pairwise (· ≤ ·)) (ho : w.ownsRow base 3 1 (.slice si.a si.len si.cap) ids.length (ids.flatMap encI)) (hv : VRow K w base X (Value.ownBlock (.slice si.a si.len si.cap)) (.slice sl.a sl.len sl.cap) l) :
    Calls Tryz.prog 62 #[.agg #[.slice sb.a sb.len sb.cap], .agg #[.string tv.name, .bool tv.enum, .slice tv.fields.a tv.fields.len tv.fields.cap, .slice tv.gone.a tv.gone.len tv.gone.cap, .slice tv.items.a tv.items.len tv.items.cap], .agg #[.int .i64 vk, .int .i64 vn, .string vs, .slice si.a si.len si.cap, .slice sl.a sl.len sl.cap]] w fun e w' => ∃ si' sl' : SV, e = .returned (.agg #[.int .i64 vk, .int .i64 vn, .string vs, .slice si'.a si'.len si'.cap, .slice sl'.a sl'.len sl'.cap]) ∧
      w'.ownsRow base 3 1 (.slice si'.a si'.len si'.cap) (fillM (leastF ts (leastV ts 4)) t.fields (ids, l)).1.length ((fillM (leastF ts (leastV ts 4)) t.fields (ids, l)).1.flatMap encI) ∧ VRow K w' base X (Value.ownBlock (.slice si'.a si'.len si'.cap)) (.slice sl'.a sl'.len sl'.cap) (fillM (leastF ts (leastV ts 4)) t.fields (ids, l)).2 ∧ Below base w w' := by
  have Hone := hide (leastOne_of sb ts hn 4 (leastMessage_any sb ts hn 4))
  generalize hlf : leastF ts (leastV ts 4) = lf at *
  have Hlf := hide hlf
  clear hlf
  have efl := ht.fields.1
  have hfs := ht.fields
  obtain ⟨nm, en, ⟨fa, fl, fc⟩, gs, is⟩ := tv
  simp only at efl hfs
  subst efl
  show Calls Tryz.prog 62 #[.agg #[.slice sb.a sb.len sb.cap], .agg #[.string nm, .bool en, .slice fa t.fields.length fc, .slice gs.a gs.len gs.cap, .slice is.a is.len is.cap], .agg #[.int .i64 vk, .int .i64 vn, .string vs, .slice si.a si.len si.cap, .slice sl.a sl.len sl.cap]] w _
  obtain ⟨w0, hw0⟩ : ∃ w0, w0 = (((w.alloc (.cells #[.slice sb.a sb.len sb.cap] 24)).alloc (.cells #[.string nm, .bool en, .slice fa t.fields.length fc, .slice gs.a gs.len gs.cap, .slice is.a is.len is.cap] 50)).alloc (.cells #[.int .i64 vk, .int .i64 vn, .string vs, .slice si.a si.len si.cap, .slice sl.a sl.len sl.cap] 28)).alloc (.cells #[.int .i64 0, .int .i64 0, .string ⟨#[]⟩, .slice none 0 0, .slice none 0 0] 28) := ⟨_, rfl⟩
  obtain ⟨hx0, hz, r0, r1, r2, r3⟩ := heaps4 hw0
  have HW0 := hide hw0
  have Hb := hide hb
  have Hfs := hide hfs
  have Hle := hide hle
  have Ho := hide ho
  have Hv := hide hv
  have hti : t.fields.length ≤ 9223372036854775807 := by omega
  have holt := ho.lt
  have hvlt : ∀ b, Value.ownBlock (.slice sl.a sl.len sl.cap) = some b → base ≤ b ∧ b < w.heap.size := by obtain ⟨css, hc1, _, _⟩ := hv; exact hc1.lt
  clear hw0 hb hfs hle ho hv ht
  go_enter Tryz.func62, Tryz.ntmps62
  go_wp2
  rw [← unhide HW0]
  go_loopw [14] (fun i wr => ∃ (j : Nat) (si sl : SV), j ≤ t.fields.length ∧ i = .int .i64 j ∧ wr.heap[w.heap.size]? = some (.cells #[.slice sb.a sb.len sb.cap] 24 (0, 0)) ∧ wr.heap[w.heap.size + 1 + 1]? = some (.cells #[.int .i64 vk, .int .i64 vn, .string vs, .slice si.a si.len si.cap, .slice sl.a sl.len sl.cap] 28 (0, 0)) ∧ wr.heap[w.heap.size + 1 + 1 + 1]? = some (.cells #[.int .i64 0, .int .i64 0, .string ⟨#[]⟩, .slice none 0 0, .slice none 0 0] 28 (0, 0)) ∧
    wr.ownsRow base 3 1 (.slice si.a si.len si.cap) (fillM lf (t.fields.take j) (ids, l)).1.length ((fillM lf (t.fields.take j) (ids, l)).1.flatMap encI) ∧ VRow K wr base (fun b => X b ∧ (b < w.heap.size ∨ w.heap.size + 4 ≤ b)) (Value.ownBlock (.slice si.a si.len si.cap)) (.slice sl.a sl.len sl.cap) (fillM lf (t.fields.take j) (ids, l)).2 ∧
    (fillM lf (t.fields.take j) (ids, l)).1.Pairwise (· ≤ ·) ∧ (fillM lf (t.fields.take j) (ids, l)).1.length = (fillM lf (t.fields.take j) (ids, l)).2.length ∧ (fillM lf (t.fields.take j) (ids, l)).1.length ≤ 1000000 + j ∧
    (∀ b, Value.ownBlock (.slice si.a si.len si.cap) = some b → b < w.heap.size ∨ w.heap.size + 4 ≤ b) ∧ (∀ b, Value.ownBlock (.slice sl.a sl.len sl.cap) = some b → b < w.heap.size ∨ w.heap.size + 4 ≤ b) ∧ Below base w wr ∧ w0.heap.size ≤ wr.heap.size) (fun i _ => t.fields.length - (intOf i).toNat)
  case atStart =>
    refine ⟨0, si, sl, by omega, rfl, r0, r2, r3, owns_ext (unhide Ho) hx0, ?_, hso, hlen, hsm, fun b hb => .inl (holt b hb).2, fun b hb => .inl (hvlt b hb).2, hx0.mono hbase, Nat.le_refl _⟩
    exact (((unhide Hv).loose fun b hb hlt => ⟨hb, .inl hlt⟩)).ext hx0
  case round =>
    obtain ⟨j, si2, sl2, hj, rfl, hB, hA, hRes, hoi, hvr, hsort, hll, hls, hoi4, hvl4, hbl, hsz⟩ := hrel
    have hEwb : Ext wb wr := Below.trans hxb (hbl.mono hwb)
    have hvLwr : ∀ b, Value.ownBlock (.slice sl2.a sl2.len sl2.cap) = some b → b < wr.heap.size := by obtain ⟨css, hc1, _, _⟩ := hvr; exact fun b hb => (hc1.lt b hb).2
    have hwz : w.heap.size + 4 ≤ wr.heap.size := by omega
    have hnx : j < t.fields.length → Hid (∃ h : j < t.fields.length, fillM lf (t.fields.take (j + 1)) (ids, l) = fillStep lf (fillM lf (t.fields.take j) (ids, l)) t.fields[j]) := fun h => ⟨h, fill_take h _⟩
    have hend : ¬ j < t.fields.length → fillM lf (t.fields.take j) (ids, l) = fillM lf t.fields (ids, l) := fun h => by rw [List.take_of_length_le (by omega)]
    generalize fillM lf (t.fields.take j) (ids, l) = p at *
    obtain ⟨a0, a1, a2, a3, a4, af⟩ := row5 hA
    have hAz := lt_of_heap hA
    have bB : wr.cell? ⟨w.heap.size, 0, none⟩ = some (.slice sb.a sb.len sb.cap) := cell_of_row _ _ 0 _ _ _ hB
    by_cases hlt : j < t.fields.length
    · obtain ⟨_, hnext⟩ := (hnx hlt).out
      obtain ⟨b, o, cs, hfa, hr, rfl⟩ := (unhide Hfs).2 j t.fields[j] (by simp [hlt])
      simp only at hfa
      subst hfa
      obtain ⟨c0, c1, c2, c3, c4⟩ := range5 (hEwb.range hr)
      have hlej := unhide Hle t.fields[j] (List.getElem_mem hlt)
      generalize t.fields[j] = f at *
      have hint : IntsAt wr si2 p.1 := by
        obtain ⟨s', e', h'⟩ := ints_of_owns hoi rfl
        simp only [Value.slice.injEq] at e'
        obtain rfl : si2 = s' := by cases si2; cases s'; simp_all
        exact h'
      have hxF : Ext wr (wr.alloc (.cells #[.int .i64 f.id, .string f.name, .string f.type, .int .i64 f.kind, .int .i64 f.rule] 56)) := (Ext.refl wr).alloc _
      have Hint := hide (hint.ext hxF)
      have Hnext := hide hnext
      have Hoi := hide hoi
      have Hvr := hide hvr
      have Hbl := hide hbl
      have Hsort := hide hsort
      have Hhx := hide hnx
      clear hr hint hnext hoi hvr hbl hsort hnx hend
      go_wp2_with fail
      obtain ⟨W1, hW1⟩ : ∃ W1, W1 = wr.alloc (.cells #[.int .i64 f.id, .string f.name, .string f.type, .int .i64 f.kind, .int .i64 f.rule] 56) := ⟨_, rfl⟩
      have rF : W1.heap[wr.heap.size]? = some (.cells #[.int .i64 f.id, .string f.name, .string f.type, .int .i64 f.kind, .int .i64 f.rule] 56 (0, 0)) := by rw [hW1]; exact heap_alloc_new _ _
      rw [← hW1] at hxF Hint ⊢
      clear hW1
      refine (binSearch_any si2 p.1 f.id W1 (unhide Hint) (by omega) (unhide Hsort)).mono ?_
      rintro e w2 ⟨rfl, hx2⟩
      have hr2 : Ext wr w2 := hxF.trans hx2
      obtain ⟨g0, g1, g2, g3, g4, _⟩ := row5 (hx2.heap rF)
      have hbl2 : Below base w w2 := Below.trans (unhide Hbl) (hr2.mono (by omega))
      have Hbl2 := hide hbl2
      clear hbl2 c0 c1 c2 c3 c4
      have hci : p.1.countP (· < f.id) ≤ p.1.length := List.countP_le_length
      have hStep : Hid (fillM lf (t.fields.take (j + 1)) (ids, l) = if f.rule = 1 ∧ p.1.contains f.id = false then (insAt p.1 (p.1.countP (· < f.id)) f.id, insAt p.2 (p.1.countP (· < f.id)) (lf f)) else p) := by unfold Hid; rw [unhide Hnext]; rfl
      have hSo2 : Hid ((insAt p.1 (p.1.countP (· < f.id)) f.id).Pairwise (· ≤ ·)) := insAt_sorted (unhide Hsort) f.id
      clear Hnext
      generalize hfd : p.1.contains f.id = fd at *
      generalize hcp : p.1.countP (· < f.id) = ci at *
      clear hfd hcp
      by_cases htk : f.rule = 1 ∧ fd = false
      case neg =>
        have hst : Hid (fillM lf (t.fields.take (j + 1)) (ids, l) = p) := by unfold Hid; rw [unhide hStep, if_neg htk]
        clear hStep hSo2
        by_cases hr1 : f.rule = 1
        · have hct : fd = true := by
            cases fd
            · exact absurd ⟨hr1, rfl⟩ htk
            · rfl
          subst hct
          have hrb : (f.rule == 1) = true := by simp [hr1]
          clear htk hr1 hlej
          go_wp2
          exact ⟨⟨j + 1, si2, sl2, by omega, by go_num, hr2.heap hB, hr2.heap hA, hr2.heap hRes, by rw [unhide hst]; exact owns_ext (unhide Hoi) hr2, by rw [unhide hst]; exact (unhide Hvr).ext hr2, by rw [unhide hst]; exact unhide Hsort, by rw [unhide hst]; exact hll, by rw [unhide hst]; omega, hoi4, hvl4, unhide Hbl2, by have := hr2.size; omega⟩, by simp [intOf]; omega⟩
        · have hrb : (f.rule == 1) = false := by simpa using hr1
          clear htk hr1 hlej
          go_wp2
          exact ⟨⟨j + 1, si2, sl2, by omega, by go_num, hr2.heap hB, hr2.heap hA, hr2.heap hRes, by rw [unhide hst]; exact owns_ext (unhide Hoi) hr2, by rw [unhide hst]; exact (unhide Hvr).ext hr2, by rw [unhide hst]; exact unhide Hsort, by rw [unhide hst]; exact hll, by rw [unhide hst]; omega, hoi4, hvl4, unhide Hbl2, by have := hr2.size; omega⟩, by simp [intOf]; omega⟩
      obtain ⟨hr1, rfl⟩ := htk
      have hst : Hid (fillM lf (t.fields.take (j + 1)) (ids, l) = (insAt p.1 ci f.id, insAt p.2 ci (lf f))) := by unfold Hid; rw [unhide hStep, if_pos ⟨hr1, rfl⟩]
      have hlf := hlej hr1
      have hrb : (f.rule == 1) = true := by simp [hr1]
      clear hStep hr1 hlej
      have e3 := hr2.cell a3
      go_wp2_with fail
      obtain ⟨W3, hW3⟩ : ∃ W3, W3 = w2.alloc (.cells #[.int .i64 f.id] 3) := ⟨_, rfl⟩
      have hx3 : Ext w2 W3 := by rw [hW3]; exact (Ext.refl w2).alloc _
      have rL : W3.heap[w2.heap.size]? = some (.cells #[.int .i64 f.id] 3 (0, 0)) := by rw [hW3]; exact heap_alloc_new _ _
      have hz3 : W3.heap.size = w2.heap.size + 1 := by rw [hW3]; simp
      rw [← hW3]
      clear hW3
      have hr3 : Ext wr W3 := hr2.trans hx3
      have hzr2 := hr2.size
      have hoilt := (unhide Hoi).lt
      refine (hI base W3 (.slice si2.a si2.len si2.cap) p.1.length _ ci w2.heap.size [.int .i64 f.id] (owns_ext (unhide Hoi) hr3) hci rfl rL (fun e => by have := (hoilt _ e).2; omega) (by intro u hu; simp at hu; subst hu; rfl) (by omega) (by omega) (ints_one _)).mono ?_
      rintro e w4 ⟨v4, rfl, ho4, hg4, hw4⟩
      obtain ⟨s4, rfl⟩ : ∃ s : SV, v4 = .slice s.a s.len s.cap := by obtain ⟨a', c', e'⟩ := owns_slice ho4; exact ⟨⟨a', _, c'⟩, e'⟩
      rw [ints_ins] at ho4
      have notA : ∀ b, w.heap.size ≤ b → b < w.heap.size + 4 → Value.ownBlock (.slice si2.a si2.len si2.cap) ≠ some b := fun b h1 h2 e => by have := hoi4 b e; omega
      have hA4 : w4.heap[w.heap.size + 1 + 1]? = some (.cells #[.int .i64 vk, .int .i64 vn, .string vs, .slice si2.a si2.len si2.cap, .slice sl2.a sl2.len sl2.cap] 28 (0, 0)) := by
        have h0 := hr3.heap hA
        rw [hg4.block _ (lt_of_heap h0) (fun e => notA _ (by omega) (by omega) e.symm)]; exact h0
      have hB4 : w4.heap[w.heap.size]? = some (.cells #[.slice sb.a sb.len sb.cap] 24 (0, 0)) := by
        have h0 := hr3.heap hB
        rw [hg4.block _ (lt_of_heap h0) (fun e => notA _ (by omega) (by omega) e.symm)]; exact h0
      have hR4 : w4.heap[w.heap.size + 1 + 1 + 1]? = some (.cells #[.int .i64 0, .int .i64 0, .string ⟨#[]⟩, .slice none 0 0, .slice none 0 0] 28 (0, 0)) := by
        have h0 := hr3.heap hRes
        rw [hg4.block _ (lt_of_heap h0) (fun e => notA _ (by omega) (by omega) e.symm)]; exact h0
      have hF4 : w4.heap[wr.heap.size]? = some (.cells #[.int .i64 f.id, .string f.name, .string f.type, .int .i64 f.kind, .int .i64 f.rule] 56 (0, 0)) := by
        have h0 := hx3.heap (hx2.heap rF)
        rw [hg4.block _ (lt_of_heap h0) (fun e => by have := (hoilt _ e.symm).2; omega)]; exact h0
      have hz4 : W3.heap.size ≤ w4.heap.size := hg4.size
      have hbl4 : Below base w w4 := (Below.trans (unhide Hbl2) (hx3.mono (by omega))).grown hg4 (by omega) (fun b hb => (hoilt b hb).1)
      have hap : Value.ownBlock (.slice sl2.a sl2.len sl2.cap) = none ∨ Value.ownBlock (.slice sl2.a sl2.len sl2.cap) ≠ Value.ownBlock (.slice si2.a si2.len si2.cap) := by
        obtain ⟨css, hc1, _, _⟩ := unhide Hvr
        exact owns_apart hc1 (unhide Hoi) (by decide)
      have hvr4 := ((unhide Hvr).ext hr3).other (ex' := Value.ownBlock (.slice s4.a s4.len s4.cap)) hg4 hap hw4
      have hs4 : ∀ b, Value.ownBlock (.slice s4.a s4.len s4.cap) = some b → b < w.heap.size ∨ w.heap.size + 4 ≤ b := fun b hb => by
        rcases hw4 with e | ⟨g', e, hge⟩
        · exact hoi4 b (by rw [← e]; exact hb)
        · rw [e] at hb; cases hb; omega
      obtain ⟨q0, q1, q2, q3, q4, qf⟩ := row5 hA4
      have hzA4 := lt_of_heap hA4
      have Ho4 := hide ho4
      have Hvr4 := hide hvr4
      have Hbl4 := hide hbl4
      clear ho4 hg4 hw4 hap hvr4 hbl4 Hvr Hbl2 Hoi hoilt rL g0 g1 g2 g3 g4 a0 a1 a2 a3 a4 af e3
      go_wp2_with fail
      obtain ⟨W, hW⟩ : ∃ W, W = w4.setCell ⟨w.heap.size + 1 + 1, 3, none⟩ (.slice s4.a s4.len s4.cap) := ⟨_, rfl⟩
      have hAW : W.heap[w.heap.size + 1 + 1]? = some (.cells #[.int .i64 vk, .int .i64 vn, .string vs, .slice s4.a s4.len s4.cap, .slice sl2.a sl2.len sl2.cap] 28 (0, 0)) := by
        rw [hW]
        have := heap_setCell_same w4 (w.heap.size + 1 + 1) 3 _ 28 (.slice s4.a s4.len s4.cap) hA4
        simpa using this
      have hBW : W.heap[w.heap.size]? = some (.cells #[.slice sb.a sb.len sb.cap] 24 (0, 0)) := by rw [hW, heap_setCell_other _ _ _ _ (show w.heap.size ≠ w.heap.size + 1 + 1 by omega)]; exact hB4
      have hRW : W.heap[w.heap.size + 1 + 1 + 1]? = some (.cells #[.int .i64 0, .int .i64 0, .string ⟨#[]⟩, .slice none 0 0, .slice none 0 0] 28 (0, 0)) := by rw [hW, heap_setCell_other _ _ _ _ (show w.heap.size + 1 + 1 + 1 ≠ w.heap.size + 1 + 1 by omega)]; exact hR4
      have hFW : W.heap[wr.heap.size]? = some (.cells #[.int .i64 f.id, .string f.name, .string f.type, .int .i64 f.kind, .int .i64 f.rule] 56 (0, 0)) := by rw [hW, heap_setCell_other _ _ _ _ (show wr.heap.size ≠ w.heap.size + 1 + 1 by omega)]; exact hF4
      have hblW : Below base w W := by rw [hW]; exact (unhide Hbl4).setCell (by show base ≤ w.heap.size + 1 + 1; omega) _
      have hoW : W.ownsRow base 3 1 (.slice s4.a s4.len s4.cap) (p.1.length + 1) ((insAt p.1 ci f.id).flatMap encI) := by
        rw [hW]; exact ownsRow_setCell_other (unhide Ho4) (fun e => by have h := hs4 _ e; simp only at h; omega) _
      have hvW : VRow K W base (fun b => X b ∧ (b < w.heap.size ∨ w.heap.size + 4 ≤ b)) (Value.ownBlock (.slice s4.a s4.len s4.cap)) (.slice sl2.a sl2.len sl2.cap) p.2 := by
        rw [hW]; exact (unhide Hvr4).set (fun e => by have h := hvl4 _ e; simp only at h; omega) (fun b hb => by have := hb.2; simp only; omega) _
      have hzW : W.heap.size = w4.heap.size := by rw [hW]; simp
      rw [← hW]
      clear hW Ho4 Hvr4 Hbl4 q0 q1 q2 q3 q4 qf
      have hEW : Ext wb W := Below.trans hxb (hblW.mono hwb)
      obtain ⟨g0, g1, g2, g3, g4, _⟩ := row5 hFW
      have hS0 : LmS (w.heap.size + 1 + 1) w.heap.size wr.heap.size sb (.slice sl2.a sl2.len sl2.cap) f W := ⟨cell_of_row _ _ 4 _ _ _ hAW, cell_of_row _ _ 0 _ _ _ hBW, g0, g1, g2, g3, g4⟩
      have hSd : LmS (w.heap.size + 1 + 1) w.heap.size wr.heap.size sb (.slice sl2.a sl2.len sl2.cap) f W.drew := hS0.ext ((Ext.refl W).drew)
      clear g0 g1 g2 g3 g4 hA4 hF4 hB4 hR4 bB
      refine wp_region_X (LmS (w.heap.size + 1 + 1) w.heap.size wr.heap.size sb (.slice sl2.a sl2.len sl2.cap) f) (fun j => decide (9 ≤ j)) (by kernel_rfl) ?_
      refine wpAnyX_take (i := 0) (v := .pointer (some ⟨w.heap.size + 1 + 1, 4, none⟩)) rfl (by kernel_rfl) (by kernel_rfl) (fun _ _ _ h => h) (.inl ⟨rfl, fun w' hS => by simp [execOp, go_sem]⟩) (hSd) ?_
      simp only [Act.put, List.getElem_toArray, List.getElem_cons_zero, List.getElem_cons_succ, List.setIfInBounds_toArray, List.set_cons_succ, List.set_cons_zero]
      refine wpAnyX_take (i := 1) (v := .slice sl2.a sl2.len sl2.cap) rfl (by kernel_rfl) (by kernel_rfl) (fun _ _ _ h => h) (.inl ⟨rfl, fun w' hS => by simp [execOp, go_sem, hS.1]⟩) (hSd) ?_
      simp only [Act.put, List.getElem_toArray, List.getElem_cons_zero, List.getElem_cons_succ, List.setIfInBounds_toArray, List.set_cons_succ, List.set_cons_zero]
      refine wpAnyX_take (i := 2) (v := .int .i64 ci) rfl (by kernel_rfl) (by kernel_rfl) (fun _ _ _ h => h) (.inl ⟨rfl, fun w' hS => by simp [execOp, go_sem]⟩) (hSd) ?_
      simp only [Act.put, List.getElem_toArray, List.getElem_cons_zero, List.getElem_cons_succ, List.setIfInBounds_toArray, List.set_cons_succ, List.set_cons_zero]
      refine wpAnyX_take (i := 3) (v := .agg #[.slice sb.a sb.len sb.cap]) rfl (by kernel_rfl) (by kernel_rfl) (fun _ _ _ h => h) (.inl ⟨rfl, fun w' hS => by simp [execOp, go_sem, hS.2.1]⟩) (hSd) ?_
      simp only [Act.put, List.getElem_toArray, List.getElem_cons_zero, List.getElem_cons_succ, List.setIfInBounds_toArray, List.set_cons_succ, List.set_cons_zero]
      refine wpAnyX_take (i := 4) (v := .agg #[.int .i64 f.id, .string f.name, .string f.type, .int .i64 f.kind, .int .i64 f.rule]) rfl (by kernel_rfl) (by kernel_rfl) (fun _ _ _ h => h) (.inl ⟨rfl, fun w' hS => by simp [execOp, go_sem, hS.2.2.1, hS.2.2.2.1, hS.2.2.2.2.1, hS.2.2.2.2.2.1, hS.2.2.2.2.2.2]⟩) (hSd) ?_
      simp only [Act.put, List.getElem_toArray, List.getElem_cons_zero, List.getElem_cons_succ, List.setIfInBounds_toArray, List.set_cons_succ, List.set_cons_zero]
      refine wpAnyX_one (j := 5) rfl (by kernel_rfl) rfl fun K hK => ?_
      go_wp2_with fail
      refine (unhide Hone f W.drew ((unhide Hb).ext (hEW.drew)) hlf).mono ?_
      rintro e w5 ⟨xi, xl, rfl, hv5, hx5⟩
      have hx5' : Ext W w5 := ((Ext.refl W).drew).trans hx5
      have hS5 := hSd.ext hx5
      generalize hxd : lf f = xv at *
      have Hv5 := hide hv5
      clear hv5 hxd
      go_wp2
      refine hK.out _ _ (hS5) ?_
      clear hK K
      refine wpAnyX_one (j := 6) rfl (by kernel_rfl) rfl fun K hK => ?_
      go_wp2
      obtain ⟨W6, hW6⟩ : ∃ W6, W6 = w5.alloc (.cells #[.int .i64 xv.kind, .int .i64 xv.n, .string xv.s, .slice xi.a xi.len xi.cap, .slice xl.a xl.len xl.cap] 28) := ⟨_, rfl⟩
      have hx6 : Ext w5 W6 := by rw [hW6]; exact (Ext.refl w5).alloc _
      have rL6 : W6.heap[w5.heap.size]? = some (.cells #[.int .i64 xv.kind, .int .i64 xv.n, .string xv.s, .slice xi.a xi.len xi.cap, .slice xl.a xl.len xl.cap] 28 (0, 0)) := by rw [hW6]; exact heap_alloc_new _ _
      have hz6 : W6.heap.size = w5.heap.size + 1 := by rw [hW6]; simp
      rw [← hW6]
      clear hW6
      refine hK.out _ _ (hS5.ext hx6) ?_
      clear hK K
      have hWW : Ext W W6 := hx5'.trans hx6
      have hv6 := hvW.ext hWW
      obtain ⟨css, hc1, hc2, hc3⟩ := hv6
      obtain ⟨css0, hd1, _, _⟩ := hvW
      have hvLlt := hd1.lt
      have hoWlt := hoW.lt
      have hz5 : W.heap.size ≤ w5.heap.size := hx5'.size
      have hxv6 : ValueAtP (fun b => (X b ∧ (b < w.heap.size ∨ w.heap.size + 4 ≤ b)) ∧ Value.ownBlock (.slice sl2.a sl2.len sl2.cap) ≠ some b ∧ Value.ownBlock (.slice s4.a s4.len s4.cap) ≠ some b ∧ b < W6.heap.size) K W6 [.int .i64 xv.kind, .int .i64 xv.n, .string xv.s, .slice xi.a xi.len xi.cap, .slice xl.a xl.len xl.cap] xv :=
        (((unhide Hv5).ext hx6).le hK).sub fun b hb => by
          have h1 : W.heap.size ≤ b := hb.1
          have h2 := hb.2
          refine ⟨⟨hX b (by omega), by omega⟩, fun e => ?_, fun e => ?_, by omega⟩
          · have := (hvLlt b e).2; omega
          · have := (hoWlt b e).2; omega
      have Hc1 := hide hc1
      refine wpAnyX_one (j := 7) rfl (by kernel_rfl) rfl fun K hK => ?_
      go_wp2_with fail
      refine (hV base W6 (.slice sl2.a sl2.len sl2.cap) p.2.length _ ci w5.heap.size [.int .i64 xv.kind, .int .i64 xv.n, .string xv.s, .slice xi.a xi.len xi.cap, .slice xl.a xl.len xl.cap] (unhide Hc1) (by omega) rfl rL6 (fun e => by have := (hvLlt _ e).2; omega) hxv6.one (by omega) (by omega) (css_one hc2 hc3)).mono ?_
      rintro e w7 ⟨v7, rfl, ho7, hg7, hw7⟩
      obtain ⟨s7, rfl⟩ : ∃ s : SV, v7 = .slice s.a s.len s.cap := by obtain ⟨a', c', e'⟩ := owns_slice ho7; exact ⟨⟨a', _, c'⟩, e'⟩
      have hv7 := VRow.ins (i := ci) (by omega) hc2 hc3 hxv6 ho7 hg7 hw7
      have notL : ∀ b, w.heap.size ≤ b → b < w.heap.size + 4 → Value.ownBlock (.slice sl2.a sl2.len sl2.cap) ≠ some b := fun b h1 h2 e => by have := hvl4 b e; omega
      have keepB : ∀ {b : Nat} {ob : Obj}, W.heap[b]? = some ob → Value.ownBlock (.slice sl2.a sl2.len sl2.cap) ≠ some b → w7.heap[b]? = some ob := fun {b ob} h0 hne => by
        have h1 := hWW.heap h0
        rw [hg7.block _ (lt_of_heap h1) (fun e => hne e.symm)]; exact h1
      have hA7 := keepB hAW (notL _ (by omega) (by omega))
      have hB7 := keepB hBW (notL _ (by omega) (by omega))
      have hR7 := keepB hRW (notL _ (by omega) (by omega))
      have hS7 : LmS (w.heap.size + 1 + 1) w.heap.size wr.heap.size sb (.slice sl2.a sl2.len sl2.cap) f w7 := (hS5.ext hx6).grown hg7 (fun e => notL _ (by omega) (by omega) e.symm) (fun e => notL _ (by omega) (by omega) e.symm) (fun e => by have := hvLwr _ e.symm; omega)
      have ho47 := (owns_ext hoW hWW).kept hg7 (owns_apart hoW hd1 (by decide))
      have hbl7 : Below base w w7 := (Below.trans hblW (hWW.mono (by omega))).grown hg7 (by omega) (fun b hb => (hvLlt b hb).1)
      have hz7 : W6.heap.size ≤ w7.heap.size := hg7.size
      have hs7 : ∀ b, Value.ownBlock (.slice s7.a s7.len s7.cap) = some b → b < w.heap.size ∨ w.heap.size + 4 ≤ b := fun b hb => by
        rcases hw7 with e | ⟨g', e, hge⟩
        · exact hvl4 b (by rw [← e]; exact hb)
        · rw [e] at hb; cases hb; omega
      obtain ⟨q0, q1, q2, q3, q4, qf⟩ := row5 hA7
      have hzA7 := lt_of_heap hA7
      have Hv7 := hide hv7
      have Ho47 := hide ho47
      have Hbl7 := hide hbl7
      clear ho7 hg7 hw7 hc1 hc2 hc3 hd1 hv7 ho47 hbl7 hxv6 hoW hblW keepB
      go_wp2
      refine hK.out _ _ (hS7) ?_
      clear hK K
      refine wpAnyX_one (j := 8) rfl (by kernel_rfl) rfl fun K hK => ?_
      go_wp2
      refine hK.out _ _ (hS7) ?_
      clear hK K
      refine wpAnyX_end [9] [_] rfl (by intro j i hj; match j, hj with | 0, hj => cases hj; rfl) (by kernel_rfl) (by intro i hi; cases hi; rfl) fun K hK => ?_
      go_wp2
      refine hK.out _ _ ?_
      clear hK K
      go_wp2
      refine ⟨⟨j + 1, s4, s7, by omega, by go_num, ?_, ?_, ?_, ?_, ?_, ?_, ?_, ?_, hs4, hs7, ?_, ?_⟩, by simp [intOf]; omega⟩
      · rw [heap_setCell_other _ _ _ _ (show w.heap.size ≠ w.heap.size + 1 + 1 by omega)]; exact hB7
      · have := heap_setCell_same w7 (w.heap.size + 1 + 1) 4 _ 28 (.slice s7.a s7.len s7.cap) hA7
        simpa using this
      · rw [heap_setCell_other _ _ _ _ (show w.heap.size + 1 + 1 + 1 ≠ w.heap.size + 1 + 1 by omega)]; exact hR7
      · rw [unhide hst]
        simp only
        rw [insAt_len _ _ _ hci]
        exact ownsRow_setCell_other (unhide Ho47) (fun e => by have h := hs4 _ e; simp only at h; omega) _
      · rw [unhide hst]
        exact (unhide Hv7).set (fun e => by have h := hs7 _ e; simp only at h; omega) (fun b hb => by have := hb.2; simp only; omega) _
      · rw [unhide hst]; exact unhide hSo2
      · rw [unhide hst]; simp only; rw [insAt_len _ _ _ hci, insAt_len _ _ _ (by omega)]; omega
      · rw [unhide hst]; simp only; rw [insAt_len _ _ _ hci]; omega
      · exact (unhide Hbl7).setCell (by show base ≤ w.heap.size + 1 + 1; omega) _
      · simp; omega
    · have hpe := hend hlt
      obtain ⟨q0, q1, q2, q3, q4, qf⟩ := row5 hRes
      have hz2 := lt_of_heap hRes
      have Hoi := hide hoi
      have Hvr := hide hvr
      have Hbl := hide hbl
      have Hpe := hide hpe
      clear hoi hvr hbl hpe hend hnx
      go_wp2
      refine bodyPost_ret (v := .agg #[.int .i64 vk, .int .i64 vn, .string vs, .slice si2.a si2.len si2.cap, .slice sl2.a sl2.len sl2.cap]) ?_ rfl ⟨si2, sl2, rfl, ?_, ?_, ?_⟩
      · simp [results, Tryz.results62, go_sem, q0, q1, q2, q3, q4, hz2]
      · rw [← unhide Hpe]
        have nb : Value.ownBlock (.slice si2.a si2.len si2.cap) ≠ some (w.heap.size + 1 + 1 + 1) := fun e => by have := hoi4 _ e; omega
        exact ownsRow_setCell_other (ownsRow_setCell_other (ownsRow_setCell_other (ownsRow_setCell_other (ownsRow_setCell_other (unhide Hoi) nb _) nb _) nb _) nb _) nb _
      · rw [← unhide Hpe]
        have nb : Value.ownBlock (.slice sl2.a sl2.len sl2.cap) ≠ some (w.heap.size + 1 + 1 + 1) := fun e => by have := hvl4 _ e; omega
        have nx : ∀ b, (X b ∧ (b < w.heap.size ∨ w.heap.size + 4 ≤ b)) → b ≠ w.heap.size + 1 + 1 + 1 := fun b hb => by have := hb.2; omega
        exact (((((((unhide Hvr).set (p := ⟨w.heap.size + 1 + 1 + 1, 0, none⟩) nb nx _).set (p := ⟨w.heap.size + 1 + 1 + 1, 1, none⟩) nb nx _).set (p := ⟨w.heap.size + 1 + 1 + 1, 2, none⟩) nb nx _).set (p := ⟨w.heap.size + 1 + 1 + 1, 3, none⟩) nb nx _).set (p := ⟨w.heap.size + 1 + 1 + 1, 4, none⟩) nb nx _).loose fun b hb _ => hb.1)
      · have hp : base ≤ w.heap.size + 1 + 1 + 1 := by omega
        exact (((((unhide Hbl).setCell (p := ⟨w.heap.size + 1 + 1 + 1, 0, none⟩) hp _).setCell (p := ⟨w.heap.size + 1 + 1 + 1, 1, none⟩) hp _).setCell (p := ⟨w.heap.size + 1 + 1 + 1, 2, none⟩) hp _).setCell (p := ⟨w.heap.size + 1 + 1 + 1, 3, none⟩) hp _).setCell (p := ⟨w.heap.size + 1 + 1 + 1, 4, none⟩) hp _
end Go.Proofs.YtmdpdgldmedebaaGreatDoor

