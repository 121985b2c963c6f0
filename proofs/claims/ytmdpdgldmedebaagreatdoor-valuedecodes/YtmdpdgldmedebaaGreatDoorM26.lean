import Derived.Test.YtmdpdgldmedebaaGreatDoorM25
namespace Go.Proofs.YtmdpdgldmedebaaGreatDoor
set_option linter.unusedSimpArgs false
set_option linter.unusedVariables false
set_option linter.unusedSimpArgs false
set_option linter.unusedVariables false
open Go.RowKit

theorem info34 : (Tryz.prog.info? 56).map (fun i => (i.zero, i.size, i.bytes)) = some (some (.agg #[.int .i64 0, .string ⟨#[]⟩, .string ⟨#[]⟩, .int .i64 0, .int .i64 0]), 5, 56) := by kernel_rfl
theorem info55 : (Tryz.prog.info? 71).map (fun i => (i.zero, i.size, i.bytes)) = some (some (.agg #[.string ⟨#[]⟩, .int .i64 0]), 2, 24) := by kernel_rfl
/-- append(v, s...), v a row of the call's own: the row grows by the slice's elements. -/
theorem wpList_appAll {α : Type} {P : Program} {w : World} {ops : Array Oper} {rest : List Oper} {o : Oper} {a : Act} {Q : Exit → Act → World → Prop} (d x : Operand) (t e : TypeId) (z : Value) (k bytes : Nat)
    (hgd : o.guard = none) (ho : o.op = .call { callee := .builtin .append, args := #[d, x], argTypes := #[t, t] })
    (ht : P.underlying t = some (.slice e)) (hinfo : (P.info? e).map (fun i => (i.zero, i.size, i.bytes)) = some (some z, k, bytes)) (hzs : z.cells.size = k) (hsz : 0 < k) (hby : bytes ≤ 96)
    (enc : α → List Value) (hk : ∀ x, (enc x).length = k) (h1 : ∀ x, ∀ u ∈ enc x, u.oneCell' = true) (base : Nat) (v : Value) (m : List α) (hown : w.ownsRow base e k v m.length (m.flatMap enc)) (hv : base ≤ w.heap.size) (hd : a.eval d = v)
    (s : SV) (l : List α) (hs : SliceAt k (fun _ cs x => cs = enc x) w s l) (h0 : s.ok) (hx : a.eval x = .slice s.a s.len s.cap) (hl : m.length + l.length ≤ 1048576)
    (h : ∀ (v' : SV) (w' : World), w'.ownsRow base e k (.slice v'.a v'.len v'.cap) (m ++ l).length ((m ++ l).flatMap enc) → w.grownBy w' v.ownBlock → wpList P ops Q rest (a.put o.dst (.slice v'.a v'.len v'.cap)) w') : wpList P ops Q (o :: rest) a w := by
  obtain ⟨i, hi, hz0, hz1, hz2⟩ := info_parts hinfo
  refine wpList_plain hgd fun K hK => ?_
  obtain ⟨sa, sl, sc⟩ := s
  have hn := hs.1
  simp only at hn
  subst hn
  cases sa with
  | none =>
    obtain ⟨e0, e1⟩ := h0.nil rfl
    simp only at e0 e1
    have : l = [] := List.length_eq_zero_iff.1 e0
    subst this
    subst e1
    have hr := run_append_owned_none (P := P) w base t o.type e i k ht hi v m.length (m.flatMap enc) hown
    obtain ⟨s', hs', _⟩ := sliceAt_of_owns enc hk (l := m) hown rfl
    unfold Oper.wp execOp
    simp only [List.length_nil] at hx
    simp only [ho, resolve, invoke, builtin, Sem.run_bind, Sem.run_pure, Result.andThen_ok, List.map_toArray, List.map_cons, List.map_nil, hd, hx, hr]
    have := h s' w (by rw [List.append_nil, ← hs']; exact hown) (World.grownBy.refl _ _)
    rw [← hs'] at this
    exact hK _ _ this
  | some ad =>
    obtain ⟨v', w', hr, ho', hg, _⟩ := run_append_own (P := P) w base t o.type e i z k bytes ht hi hz0 hz1 hz2 hzs hsz v m.length (m.flatMap enc) hown ad l.length sc (l.flatMap enc) (flatMap_len hk l) (hs.row hk rfl)
      (fun u hu => let ⟨x, _, hx⟩ := List.mem_flatMap.1 hu; h1 x u hx) (by unfold maxLen; omega)
      (by have : (m.length + l.length) * bytes ≤ 1048576 * 96 := Nat.mul_le_mul (by omega) hby
          omega) hv
    rw [← List.flatMap_append, ← List.length_append] at ho'
    obtain ⟨s', rfl, _⟩ := sliceAt_of_owns enc hk ho' rfl
    unfold Oper.wp execOp
    simp only at hx
    simp only [ho, resolve, invoke, builtin, Sem.run_bind, Sem.run_pure, Result.andThen_ok, List.map_toArray, List.map_cons, List.map_nil, hd, hx, hr]
    exact hK _ _ (h s' w' ho' hg)
theorem owns_base {w : World} {base base' : Nat} {e : TypeId} {size : Nat} {v : Value} {n : Nat} {xs : List Value} (h : w.ownsRow base e size v n xs) (hb : base' ≤ base) : w.ownsRow base' e size v n xs := by
  refine ⟨h.1, ?_⟩
  rcases h.2 with h0 | ⟨g, cap, cur, hv, hg, r⟩
  · exact .inl h0
  · exact .inr ⟨g, cap, cur, hv, Nat.le_trans hb hg, r⟩

theorem info30 : (Tryz.prog.info? 50).map (fun i => (i.zero, i.size, i.bytes)) = some (some (.agg #[.string ⟨#[]⟩, .bool false, .slice none 0 0, .slice none 0 0, .slice none 0 0]), 5, 96) := by kernel_rfl
theorem one_tv (t : TV) : ∀ u ∈ t.cells, u.oneCell' = true := by intro u hu; simp at hu; rcases hu with rfl | rfl | rfl | rfl | rfl <;> rfl

structure TyRows (w : World) (base : Nat) (tv : TV) (t : TypeM) : Prop where
  name : tv.name = t.name
  enum : tv.enum = t.enum
  fields : w.ownsRow base 56 5 (.slice tv.fields.a tv.fields.len tv.fields.cap) t.fields.length (t.fields.flatMap FieldM.cells)
  gone : w.ownsRow base 3 1 (.slice tv.gone.a tv.gone.len tv.gone.cap) t.gone.length (t.gone.flatMap encI)
  items : w.ownsRow base 71 2 (.slice tv.items.a tv.items.len tv.items.cap) t.items.length (t.items.flatMap ItemM.cells)
def SV.blk (s : SV) : Option Nat := s.a.map (·.block)
/-- Two slices do not lie in one block. -/
def SV.apart (s s' : SV) : Prop := s.blk = none ∨ s.blk ≠ s'.blk
structure TV.apart (t t' : TV) : Prop where
  fields : t.fields.apart t'.fields
  gone : t.gone.apart t'.gone
  items : t.items.apart t'.items
/-- A book that is being read: its types in a row of its own, their lists in rows of their own, no two in one block. -/
structure BkOwn (w : World) (base : Nat) (s : SV) (tvs : List TV) (ts : List TypeM) : Prop where
  outer : w.ownsRow base 50 5 (.slice s.a s.len s.cap) tvs.length (tvs.flatMap TV.cells)
  len : tvs.length = ts.length
  inner : ∀ (i : Nat) (tv : TV) (t : TypeM), tvs[i]? = some tv → ts[i]? = some t → TyRows w base tv t
  apart : ∀ (i j : Nat) (tv tv' : TV), i ≠ j → tvs[i]? = some tv → tvs[j]? = some tv' → tv.apart tv'

theorem ownBlock_blk (s : SV) : (Value.slice s.a s.len s.cap).ownBlock = s.blk := by
  unfold SV.blk
  cases h : s.a <;> simp [Value.ownBlock]
theorem TyRows.map {w w' : World} {base : Nat} {tv : TV} {t : TypeM} (h : TyRows w base tv t) (k : ∀ {e : TypeId} {size : Nat} {v : Value} {n : Nat} {xs : List Value}, e ≠ 50 → w.ownsRow base e size v n xs → w'.ownsRow base e size v n xs) : TyRows w' base tv t :=
  ⟨h.name, h.enum, k (by decide) h.fields, k (by decide) h.gone, k (by decide) h.items⟩
theorem BkOwn.map {w w' : World} {base : Nat} {s : SV} {tvs : List TV} {ts : List TypeM} (h : BkOwn w base s tvs ts) (k : ∀ {e : TypeId} {size : Nat} {v : Value} {n : Nat} {xs : List Value}, w.ownsRow base e size v n xs → w'.ownsRow base e size v n xs) : BkOwn w' base s tvs ts :=
  ⟨k h.outer, h.len, fun i tv t h1 h2 => (h.inner i tv t h1 h2).map fun _ => k, h.apart⟩

theorem ty_base {w : World} {base base' : Nat} {tv : TV} {t : TypeM} (h : TyRows w base tv t) (hb : base' ≤ base) : TyRows w base' tv t :=
  ⟨h.name, h.enum, owns_base h.fields hb, owns_base h.gone hb, owns_base h.items hb⟩
theorem sv_apart_new {w w' : World} {base B : Nat} {e e' : TypeId} {size size' : Nat} {s s' : SV} {n n' : Nat} {xs xs' : List Value} (h : w.ownsRow base e size (.slice s.a s.len s.cap) n xs) (h' : w'.ownsRow B e' size' (.slice s'.a s'.len s'.cap) n' xs') (hB : w.heap.size ≤ B) : s.apart s' ∧ s'.apart s := by
  have l := h.lt
  have l' := h'.lt
  rw [ownBlock_blk] at l l'
  unfold SV.apart
  cases hb : s.blk with
  | none =>
    refine ⟨.inl rfl, ?_⟩
    cases hb' : s'.blk with
    | none => exact .inl rfl
    | some k => right; intro e; cases e
  | some k =>
    have := l k hb
    cases hb' : s'.blk with
    | none => exact ⟨.inr (by intro e; cases e), .inl rfl⟩
    | some k' =>
      have := l' k' hb'
      exact ⟨.inr (by intro e; cases e; omega), .inr (by intro e; cases e; omega)⟩
theorem tv_apart_new {w w' : World} {base B : Nat} {tv tv' : TV} {t t' : TypeM} (h : TyRows w base tv t) (h' : TyRows w' B tv' t') (hB : w.heap.size ≤ B) : tv.apart tv' ∧ tv'.apart tv :=
  ⟨⟨(sv_apart_new h.fields h'.fields hB).1, (sv_apart_new h.gone h'.gone hB).1, (sv_apart_new h.items h'.items hB).1⟩, ⟨(sv_apart_new h.fields h'.fields hB).2, (sv_apart_new h.gone h'.gone hB).2, (sv_apart_new h.items h'.items hB).2⟩⟩
theorem get_snoc {α : Type} {l : List α} {x y : α} {i : Nat} (h : (l ++ [x])[i]? = some y) : l[i]? = some y ∨ (i = l.length ∧ y = x) := by
  by_cases hi : i < l.length
  · rw [List.getElem?_append_left hi] at h; exact .inl h
  · rw [List.getElem?_append_right (by omega)] at h
    have : i - l.length = 0 := by
      cases hz : i - l.length with
      | zero => rfl
      | succ m => rw [hz] at h; simp at h
    rw [this] at h
    simp at h
    exact .inr ⟨by omega, h.symm⟩
/-- One more type: its rows lie above all that was there. -/
theorem bk_push {w w1 w2 : World} {base B : Nat} {s s' : SV} {tvs : List TV} {ts : List TypeM} {tv : TV} {t : TypeM} (h : BkOwn w base s tvs ts) (hB : w.heap.size ≤ B) (hn : TyRows w1 B tv t)
    (kold : ∀ (i : Nat) (tv : TV) (t : TypeM), tvs[i]? = some tv → ts[i]? = some t → TyRows w2 base tv t) (knew : TyRows w2 base tv t) (ko : w2.ownsRow base 50 5 (.slice s'.a s'.len s'.cap) (tvs.length + 1) ((tvs ++ [tv]).flatMap TV.cells)) : BkOwn w2 base s' (tvs ++ [tv]) (ts ++ [t]) := by
  refine ⟨by rw [List.length_append]; exact ko, by simp [h.len], fun i a b h1 h2 => ?_, fun i j a b hij h1 h2 => ?_⟩
  · rcases get_snoc h1 with h1 | ⟨e1, rfl⟩
    · have : i < tvs.length := by
        by_cases hi : i < tvs.length
        · exact hi
        · rw [List.getElem?_eq_none (by omega)] at h1; cases h1
      rcases get_snoc h2 with h2 | ⟨e2, _⟩
      · exact kold i a b h1 h2
      · have := h.len; omega
    · rcases get_snoc h2 with h2 | ⟨e2, rfl⟩
      · rw [List.getElem?_eq_none (by have := h.len; omega)] at h2; cases h2
      · exact knew
  · have old : ∀ {i : Nat} {a : TV}, tvs[i]? = some a → ∃ b, ts[i]? = some b := by
      intro i a hi
      have hl : i < tvs.length := by
        by_cases hl : i < tvs.length
        · exact hl
        · rw [List.getElem?_eq_none (by omega)] at hi; cases hi
      exact ⟨ts[i]'(by have := h.len; omega), List.getElem?_eq_getElem _⟩
    rcases get_snoc h1 with k1 | ⟨e1, q1⟩
    · rcases get_snoc h2 with k2 | ⟨e2, q2⟩
      · exact h.apart i j a b hij k1 k2
      · obtain ⟨b', hb'⟩ := old k1
        rw [q2]; exact (tv_apart_new (h.inner i a b' k1 hb') hn hB).1
    · rcases get_snoc h2 with k2 | ⟨e2, q2⟩
      · obtain ⟨b', hb'⟩ := old k2
        rw [q1]; exact (tv_apart_new (h.inner j b b' k2 hb') hn hB).2
      · omega

theorem rows_type {w : World} {base : Nat} {tv : TV} {t : TypeM} (h : TyRows w base tv t) : TypeAt w tv t := by
  obtain ⟨sf, e1, hf⟩ := sliceAt_of_owns FieldM.cells (fun _ => rfl) h.fields rfl
  obtain ⟨sg, e2, hg⟩ := sliceAt_of_owns encI (fun _ => rfl) h.gone rfl
  obtain ⟨si, e3, hi⟩ := sliceAt_of_owns ItemM.cells (fun _ => rfl) h.items rfl
  obtain ⟨nm, en, ⟨fa, fl, fc⟩, ⟨ga, gl, gc⟩, ⟨ia, il, ic⟩⟩ := tv
  obtain ⟨fa', fl', fc'⟩ := sf
  obtain ⟨ga', gl', gc'⟩ := sg
  obtain ⟨ia', il', ic'⟩ := si
  simp only [Value.slice.injEq] at e1 e2 e3
  obtain ⟨rfl, rfl, rfl⟩ := e1
  obtain ⟨rfl, rfl, rfl⟩ := e2
  obtain ⟨rfl, rfl, rfl⟩ := e3
  exact ⟨h.name, h.enum, hf, hg, hi, ok_of_owns h.fields, ok_of_owns h.gone, ok_of_owns h.items⟩
theorem bk_outer {w : World} {base : Nat} {s : SV} {tvs : List TV} {ts : List TypeM} (h : BkOwn w base s tvs ts) : SliceAt 5 (fun _ cs tv => cs = tv.cells) w s tvs := by
  obtain ⟨sf, e1, hf⟩ := sliceAt_of_owns TV.cells (fun _ => rfl) h.outer rfl
  obtain ⟨a, l, c⟩ := s
  obtain ⟨fa', fl', fc'⟩ := sf
  simp only [Value.slice.injEq] at e1
  obtain ⟨rfl, rfl, rfl⟩ := e1
  exact hf
theorem bk_get {tvs : List TV} {ts : List TypeM} (hl : tvs.length = ts.length) {i : Nat} {t : TypeM} (h : ts[i]? = some t) : ∃ tv, tvs[i]? = some tv := by
  have := (List.getElem?_eq_some_iff.1 h).1
  exact ⟨tvs[i]'(by omega), List.getElem?_eq_getElem _⟩
theorem bk_book {w : World} {base : Nat} {s : SV} {tvs : List TV} {ts : List TypeM} (h : BkOwn w base s tvs ts) : BookAt w s ts := by
  obtain ⟨hl, ho⟩ := bk_outer h
  refine ⟨by rw [hl, h.len], fun i t ht => ?_⟩
  obtain ⟨tv, htv⟩ := bk_get h.len ht
  obtain ⟨b, o, cs, h1, h2, h3⟩ := ho i tv htv
  exact ⟨b, o, cs, h1, h2, tv, h3, rows_type (h.inner i tv t htv ht)⟩

theorem bk_ext {w w' : World} {base : Nat} {s : SV} {tvs : List TV} {ts : List TypeM} (h : BkOwn w base s tvs ts) (hx : Ext w w') : BkOwn w' base s tvs ts := h.map fun h => owns_ext h hx
end Go.Proofs.YtmdpdgldmedebaaGreatDoor

namespace Go.Proofs.YtmdpdgldmedebaaGreatDoor
set_option linter.unusedSimpArgs false
set_option linter.unusedVariables false
open Go.RowKit

set_option maxHeartbeats 400000 in
theorem refTypeOf_any (s : SV) (ts : BookM) (name : ByteArray) (w : World) (hs : BookAt w s ts) (hn : ts.length ≤ 1048576) :
   Calls Tryz.prog 30 #[.agg #[.slice s.a s.len s.cap], .string name] w fun e w' => ∃ tv : TV, e = .returned (.tuple #[.agg #[.string tv.name, .bool tv.enum, .slice tv.fields.a tv.fields.len tv.fields.cap, .slice tv.gone.a tv.gone.len tv.gone.cap, .slice tv.items.a tv.items.len tv.items.cap], .bool (findM ts name).isSome]) ∧ TypeAt w tv ((findM ts name).getD TypeM.zero) ∧ Ext w w' := by
  obtain ⟨a, n, cap⟩ := s
  obtain ⟨hl, hts⟩ := hs
  simp only at hl
  subst hl
  show Calls Tryz.prog 30 #[.agg #[.slice a ts.length cap], .string name] w _
  go_enter Tryz.func30, Tryz.ntmps30
  go_wp2
  go_loopw [10] (fun i wr => ∃ k : Nat, k ≤ ts.length ∧ i = .int .i64 k ∧ NoneTo (fun t : TypeM => t.name.toList == name.toList) ts k ∧ Ext ((w.alloc (Obj.cells #[Value.slice a ts.length cap] 24)).alloc (Obj.cells #[Value.string { data := #[] }, Value.bool false, Value.slice none 0 0, Value.slice none 0 0, Value.slice none 0 0] 50)) wr) (fun i wr => ts.length - (intOf i).toNat)
  case atStart => exact ⟨0, by omega, rfl, NoneTo.zero _ _, Below.refl _ _⟩
  case round =>
    obtain ⟨k, hk, rfl, hne, hx⟩ := hrel
    have hE : Ext w wr := (((Ext.refl w).alloc _).alloc _).trans hx
    obtain ⟨q0, q1, q2, q3, q4, hf⟩ := row5 (hx.heap (heap_alloc2_new _ _ _))
    have p0 : wr.cell? ⟨w.heap.size, 0, none⟩ = some (.slice a ts.length cap) := cell_of_row _ _ 0 _ _ _ (hx.heap (heap_alloc2_old _ _ _))
    have hz : w.heap.size + 1 < wr.heap.size := by have := hx.size; simp at this; omega
    by_cases hlt : k < ts.length
    · obtain ⟨b, o, cs, rfl, hr, tv, rfl, htv⟩ := hts k ts[k] (by simp [hlt])
      obtain ⟨h0, h1, h2, h3, h4⟩ := range5 (hE.range hr)
      have Htv : Hid (TypeAt w tv ts[k]) := htv
      have Hk : Hid (ts[k]? = some ts[k]) := by simp [Hid, hlt]
      clear hts hr htv
      go_wp2
      · rename_i hname
        have e : findM ts name = some ts[k] := NoneTo.some hne Hk.out (by rw [← Htv.out.name]; exact hname)
        refine bodyPost_ret (v := .tuple #[.agg #[.string tv.name, .bool tv.enum, .slice tv.fields.a tv.fields.len tv.fields.cap, .slice tv.gone.a tv.gone.len tv.gone.cap, .slice tv.items.a tv.items.len tv.items.cap], .bool true]) (by simp [results, Tryz.results30, go_sem, q0, q1, q2, q3, q4]) rfl ⟨tv, by rw [e]; rfl, by rw [e]; exact Htv.out, ?_⟩
        exact (((((hE.setCell (by simp) _).setCell (by simp) _).setCell (by simp) _).setCell (by simp) _).setCell (by simp) _)
      · rename_i hname
        exact ⟨⟨k + 1, by omega, by go_num, NoneTo.succ hne Hk.out (by rw [← Htv.out.name]; exact hname), hx⟩, by simp [intOf]; omega⟩
    · go_wp2
      have e : findM ts name = none := NoneTo.none hne (by omega)
      refine bodyPost_ret (v := .tuple #[.agg #[.string ⟨#[]⟩, .bool false, .slice none 0 0, .slice none 0 0, .slice none 0 0], .bool false]) (by simp [results, Tryz.results30, go_sem, q0, q1, q2, q3, q4]) rfl ⟨⟨⟨#[]⟩, false, ⟨none, 0, 0⟩, ⟨none, 0, 0⟩, ⟨none, 0, 0⟩⟩, by rw [e]; rfl, by rw [e]; exact zeroTypeAt w, ?_⟩
      exact (((((hE.setCell (by simp) _).setCell (by simp) _).setCell (by simp) _).setCell (by simp) _).setCell (by simp) _)

set_option maxHeartbeats 400000 in
theorem refFieldIn_any (tv : TV) (t : TypeM) (n : Int) (w : World) (ht : TypeAt w tv t) (hn : t.fields.length ≤ 1048576) :
    Calls Tryz.prog 31 #[.agg #[.string tv.name, .bool tv.enum, .slice tv.fields.a tv.fields.len tv.fields.cap, .slice tv.gone.a tv.gone.len tv.gone.cap, .slice tv.items.a tv.items.len tv.items.cap], .int .i64 n] w fun e w' => e = .returned (.tuple #[.agg ((fieldM t n).getD FieldM.zero).cells.toArray, .bool (fieldM t n).isSome]) ∧ Ext w w' := by
  obtain ⟨name, enum, fs, gs, is⟩ := tv
  obtain ⟨b', n', c'⟩ := fs
  obtain ⟨hl, hts⟩ := ht.fields
  simp only at hl
  subst hl
  show Calls Tryz.prog 31 #[.agg #[.string name, .bool enum, .slice b' t.fields.length c', .slice gs.a gs.len gs.cap, .slice is.a is.len is.cap], .int .i64 n] w _
  go_enter Tryz.func31, Tryz.ntmps31
  go_wp2
  go_loopw [10] (fun i wr => ∃ k : Nat, k ≤ t.fields.length ∧ i = .int .i64 k ∧ NoneTo (fun i : FieldM => i.id == n) t.fields k ∧ Ext ((w.alloc (Obj.cells #[.string name, .bool enum, .slice b' t.fields.length c', .slice gs.a gs.len gs.cap, .slice is.a is.len is.cap] 50)).alloc (Obj.cells #[.int .i64 0, .string ⟨#[]⟩, .string ⟨#[]⟩, .int .i64 0, .int .i64 0] 56)) wr) (fun i wr => t.fields.length - (intOf i).toNat)
  case atStart => exact ⟨0, by omega, rfl, NoneTo.zero _ _, Below.refl _ _⟩
  case round =>
    obtain ⟨k, hk, rfl, hne, hx⟩ := hrel
    have hE : Ext w wr := (((Ext.refl w).alloc _).alloc _).trans hx
    obtain ⟨q0, q1, q2, q3, q4, hf⟩ := row5 (hx.heap (heap_alloc2_new _ _ _))
    obtain ⟨_, _, p2, _, _, _⟩ := row5 (hx.heap (heap_alloc2_old _ _ _))
    have hz : w.heap.size + 1 < wr.heap.size := by have := hx.size; simp at this; omega
    by_cases hlt : k < t.fields.length
    · obtain ⟨b, o, cs, rfl, hr, rfl⟩ := hts k t.fields[k] (by simp [hlt])
      obtain ⟨h0, h1, h2, h3, h4⟩ := range5 (hE.range hr)
      have Hk : Hid (t.fields[k]? = some t.fields[k]) := by simp [Hid, hlt]
      clear hts hr
      go_wp2
      · rename_i hname
        have e : fieldM t n = some t.fields[k] := NoneTo.some hne Hk.out hname
        refine bodyPost_ret (v := .tuple #[.agg t.fields[k].cells.toArray, .bool true]) (by simp [results, Tryz.results31, go_sem, q0, q1, q2, q3, q4]) rfl ⟨by rw [e]; rfl, ?_⟩
        exact (((((hE.setCell (by simp) _).setCell (by simp) _).setCell (by simp) _).setCell (by simp) _).setCell (by simp) _)
      · rename_i hname
        exact ⟨⟨k + 1, by omega, by go_num, NoneTo.succ hne Hk.out hname, hx⟩, by simp [intOf]; omega⟩
    · go_wp2
      have e : fieldM t n = none := NoneTo.none hne (by omega)
      refine bodyPost_ret (v := .tuple #[.agg FieldM.zero.cells.toArray, .bool false]) (by simp [results, Tryz.results31, go_sem, q0, q1, q2, q3, q4, FieldM.zero]) rfl ⟨by rw [e]; rfl, ?_⟩
      exact (((((hE.setCell (by simp) _).setCell (by simp) _).setCell (by simp) _).setCell (by simp) _).setCell (by simp) _)
end Go.Proofs.YtmdpdgldmedebaaGreatDoor

namespace Go.Proofs.YtmdpdgldmedebaaGreatDoor
set_option linter.unusedSimpArgs false
set_option linter.unusedVariables false
open Go.RowKit

/-- One of the first k items has that number. -/
def hasTo (l : List ItemM) (n : Int) (k : Nat) : Bool := (l.take k).any fun x => x.n == n
theorem hasTo_succ {l : List ItemM} {n : Int} {k : Nat} (hk : k < l.length) : hasTo l n (k + 1) = (hasTo l n k || l[k].n == n) := by
  unfold hasTo
  rw [List.take_succ_eq_append_getElem hk, List.any_append]
  simp

set_option maxHeartbeats 800000 in
theorem itemIn_any (tv : TV) (t : TypeM) (n : Int) (w : World) (ht : TypeAt w tv t) (hn : t.items.length ≤ 9223372036854775807) :
    Calls Tryz.prog 76 #[.agg #[.string tv.name, .bool tv.enum, .slice tv.fields.a tv.fields.len tv.fields.cap, .slice tv.gone.a tv.gone.len tv.gone.cap, .slice tv.items.a tv.items.len tv.items.cap], .int .i64 n] w fun e w' => e = .returned (.bool (hasTo t.items n t.items.length)) ∧ Ext w w' := by
  obtain ⟨name, enum, ⟨fa, fn, fc⟩, ⟨ga, gn, gc⟩, ⟨ia, il, ic⟩⟩ := tv
  obtain ⟨hi, hts⟩ := ht.items
  simp only at hi hts
  subst hi
  show Calls Tryz.prog 76 #[.agg #[.string name, .bool enum, .slice fa fn fc, .slice ga gn gc, .slice ia t.items.length ic], .int .i64 n] w _
  have hx0 : Ext w (w.alloc (.cells #[.string name, .bool enum, .slice fa fn fc, .slice ga gn gc, .slice ia t.items.length ic] 50)) := (Ext.refl w).alloc _
  clear ht
  go_enter Tryz.func76, Tryz.ntmps76
  go_wp2
  go_loopw [5, 11] (fun b i wr => ∃ k : Nat, k ≤ t.items.length ∧ i = .int .i64 k ∧ b = .bool (hasTo t.items n k) ∧ Ext w wr) (fun _ i _ => t.items.length - (intOf i).toNat)
  case atStart => exact ⟨0, by omega, rfl, rfl, hx0⟩
  case round =>
    obtain ⟨k, hk, rfl, rfl, hx⟩ := hrel
    by_cases hlt : k < t.items.length
    · obtain ⟨b, o, cs, rfl, hr, rfl⟩ := hts k t.items[k] (by simp [hlt])
      have HS := hide (hasTo_succ (n := n) hlt)
      obtain ⟨h0, h1⟩ := range2 (hx.range hr)
      generalize t.items[k] = f at *
      clear hts hr
      cases hb : hasTo t.items n k
      · have HS2 : Hid (hasTo t.items n (k + 1) = (f.n == n)) := by unfold Hid; rw [unhide HS, hb]; rfl
        go_wp2
        go_roundw
        case rel => exact ⟨k + 1, by omega, by go_num, by rw [unhide HS2], hx.alloc _⟩
        case measure => simp [intOf]; omega
      · have HS2 : Hid (hasTo t.items n (k + 1) = true) := by unfold Hid; rw [unhide HS, hb]; rfl
        go_wp2
        go_roundw
        case rel => exact ⟨k + 1, by omega, by go_num, by rw [unhide HS2], hx.alloc _⟩
        case measure => simp [intOf]; omega
    · go_wp2
      go_ret
      have e : k = t.items.length := by omega
      subst e
      exact ⟨rfl, hx⟩
end Go.Proofs.YtmdpdgldmedebaaGreatDoor

namespace Go.Proofs.YtmdpdgldmedebaaGreatDoor
set_option linter.unusedSimpArgs false
set_option linter.unusedVariables false
open Go.RowKit

set_option maxHeartbeats 3200000 in
theorem sameTypeR_true (tv tv' : TV) (t : TypeM) (w : World) (h : TypeAt w tv t) (h' : TypeAt w tv' t) (hn : t.Fits) :
    Calls Tryz.prog 37 #[.agg #[.string tv.name, .bool tv.enum, .slice tv.fields.a tv.fields.len tv.fields.cap, .slice tv.gone.a tv.gone.len tv.gone.cap, .slice tv.items.a tv.items.len tv.items.cap], .agg #[.string tv'.name, .bool tv'.enum, .slice tv'.fields.a tv'.fields.len tv'.fields.cap, .slice tv'.gone.a tv'.gone.len tv'.gone.cap, .slice tv'.items.a tv'.items.len tv'.items.cap]] w fun e w' => e = .returned (.bool true) ∧ Ext w w' := by
  obtain ⟨nm, en, ⟨fa, fl, fc⟩, ⟨ga, gl, gc⟩, ⟨ia, il, ic⟩⟩ := tv
  obtain ⟨nm', en', ⟨fa', fl', fc'⟩, ⟨ga', gl', gc'⟩, ⟨ia', il', ic'⟩⟩ := tv'
  have e1 := h.name
  have e2 := h.enum
  have e1' := h'.name
  have e2' := h'.enum
  have n1 := hn.fields
  have n2 := hn.gone
  have n3 := hn.items
  obtain ⟨l1, f1⟩ := h.fields
  obtain ⟨l2, f2⟩ := h.gone
  obtain ⟨l3, f3⟩ := h.items
  obtain ⟨l1', f1'⟩ := h'.fields
  obtain ⟨l2', f2'⟩ := h'.gone
  obtain ⟨l3', f3'⟩ := h'.items
  simp only at e1 e2 e1' e2' l1 l2 l3 l1' l2' l3'
  subst e1 e2 e1' e2' l1 l2 l3 l1' l2' l3'
  obtain ⟨nm, en, fs, gs, is⟩ := t
  simp only at f1 f2 f3 f1' f2' f3' n1 n2 n3 ⊢
  clear h h' hn
  have hx0 : Ext w ((w.alloc (.cells #[.string nm, .bool en, .slice fa fs.length fc, .slice ga gs.length gc, .slice ia is.length ic] 50)).alloc (.cells #[.string nm, .bool en, .slice fa' fs.length fc', .slice ga' gs.length gc', .slice ia' is.length ic'] 50)) := ((Ext.refl w).alloc _).alloc _
  have F1 := hide f1
  have F2 := hide f2
  have F3 := hide f3
  have F1' := hide f1'
  have F2' := hide f2'
  have F3' := hide f3'
  clear f1 f2 f3 f1' f2' f3'
  go_enter Tryz.func37, Tryz.ntmps37
  go_wp2
  go_loopw [50] (fun i wr => ∃ k : Nat, k ≤ fs.length ∧ i = .int .i64 k ∧ Ext w wr ∧ wr.heap[w.heap.size]? = some (.cells #[.string nm, .bool en, .slice fa fs.length fc, .slice ga gs.length gc, .slice ia is.length ic] 50 (0, 0)) ∧ wr.heap[w.heap.size + 1]? = some (.cells #[.string nm, .bool en, .slice fa' fs.length fc', .slice ga' gs.length gc', .slice ia' is.length ic'] 50 (0, 0))) (fun i wr => fs.length - (intOf i).toNat)
  case atStart => exact ⟨0, by omega, rfl, hx0, heap_alloc2_old _ _ _, heap_alloc2_new _ _ _⟩
  case round =>
    obtain ⟨k, hk, rfl, hx, hA, hB⟩ := hrel
    obtain ⟨a0, a1, a2, a3, a4, af⟩ := row5 hA
    obtain ⟨b0, b1, b2, b3, b4, bf⟩ := row5 hB
    have zB := lt_of_heap hB
    by_cases hlt : k < fs.length
    · obtain ⟨b, o, cs, ha, hr, rfl⟩ := (unhide F1) k fs[k] (by simp [hlt])
      obtain ⟨b', o', cs', ha', hr', rfl⟩ := (unhide F1') k fs[k] (by simp [hlt])
      subst ha ha'
      obtain ⟨f0, f1, f2, f3, f4⟩ := range5 (hx.range hr)
      obtain ⟨g0, g1, g2, g3, g4⟩ := range5 (hx.range hr')
      generalize fs[k] = f at *
      clear F1 F1' hr hr'
      go_wp2_with fail
      go_quiet (fail)
      go_wp2
      exact ⟨⟨k + 1, by omega, by go_num, hx.drewN _, hA, hB⟩, by simp [intOf]; omega⟩
    · go_wp2
      go_loopw [68] (fun i wr => ∃ k : Nat, k ≤ gs.length ∧ i = .int .i64 k ∧ Ext w wr ∧ wr.heap[w.heap.size]? = some (.cells #[.string nm, .bool en, .slice fa fs.length fc, .slice ga gs.length gc, .slice ia is.length ic] 50 (0, 0)) ∧ wr.heap[w.heap.size + 1]? = some (.cells #[.string nm, .bool en, .slice fa' fs.length fc', .slice ga' gs.length gc', .slice ia' is.length ic'] 50 (0, 0))) (fun i wr => gs.length - (intOf i).toNat)
      case atStart => exact ⟨0, by omega, rfl, hx, hA, hB⟩
      case round =>
        clear hx hA hB a0 a1 a2 a3 a4 af b0 b1 b2 b3 b4 bf zB
        obtain ⟨k, hk, rfl, hx, hA, hB⟩ := hrel
        obtain ⟨a0, a1, a2, a3, a4, af⟩ := row5 hA
        obtain ⟨b0, b1, b2, b3, b4, bf⟩ := row5 hB
        have zB := lt_of_heap hB
        by_cases hlt : k < gs.length
        · obtain ⟨b, o, cs, ha, hr, rfl⟩ := (unhide F2) k gs[k] (by simp [hlt])
          obtain ⟨b', o', cs', ha', hr', rfl⟩ := (unhide F2') k gs[k] (by simp [hlt])
          subst ha ha'
          have f0 := hx.cell (hr 0 _ rfl)
          have g0 := hx.cell (hr' 0 _ rfl)
          simp only [Nat.mul_one, Nat.add_zero] at f0 g0
          generalize gs[k] = f at *
          clear F2 F2' hr hr'
          go_wp2_with fail
          go_quiet (fail)
          go_wp2
          exact ⟨⟨k + 1, by omega, by go_num, hx.drewN _, hA, hB⟩, by simp [intOf]; omega⟩
        · go_wp2
          go_loopw [86] (fun i wr => ∃ k : Nat, k ≤ is.length ∧ i = .int .i64 k ∧ Ext w wr ∧ wr.heap[w.heap.size]? = some (.cells #[.string nm, .bool en, .slice fa fs.length fc, .slice ga gs.length gc, .slice ia is.length ic] 50 (0, 0)) ∧ wr.heap[w.heap.size + 1]? = some (.cells #[.string nm, .bool en, .slice fa' fs.length fc', .slice ga' gs.length gc', .slice ia' is.length ic'] 50 (0, 0))) (fun i wr => is.length - (intOf i).toNat)
          case atStart => exact ⟨0, by omega, rfl, hx, hA, hB⟩
          case round =>
            clear hx hA hB a0 a1 a2 a3 a4 af b0 b1 b2 b3 b4 bf zB
            obtain ⟨k, hk, rfl, hx, hA, hB⟩ := hrel
            obtain ⟨a0, a1, a2, a3, a4, af⟩ := row5 hA
            obtain ⟨b0, b1, b2, b3, b4, bf⟩ := row5 hB
            have zB := lt_of_heap hB
            by_cases hlt : k < is.length
            · obtain ⟨b, o, cs, ha, hr, rfl⟩ := (unhide F3) k is[k] (by simp [hlt])
              obtain ⟨b', o', cs', ha', hr', rfl⟩ := (unhide F3') k is[k] (by simp [hlt])
              subst ha ha'
              have f0 := hx.cell (hr 0 _ rfl)
              have f1 := hx.cell (hr 1 _ rfl)
              have g0 := hx.cell (hr' 0 _ rfl)
              have g1 := hx.cell (hr' 1 _ rfl)
              simp only [Nat.add_zero] at f0 g0
              generalize is[k] = f at *
              clear F3 F3' hr hr'
              go_wp2_with fail
              go_quiet (fail)
              go_wp2
              exact ⟨⟨k + 1, by omega, by go_num, hx.drewN _, hA, hB⟩, by simp [intOf]; omega⟩
            · go_wp2
              go_ret
              exact ⟨rfl, hx⟩
end Go.Proofs.YtmdpdgldmedebaaGreatDoor

