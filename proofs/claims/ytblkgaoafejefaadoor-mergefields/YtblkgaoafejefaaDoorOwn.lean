import Derived.Test.YtblkgaoafejefaaDoorBase
namespace Go.Proofs.YtblkgaoafejefaaDoor
set_option linter.unusedSimpArgs false
set_option linter.unusedVariables false
open Go.RowKit

/-- Two rows of the call's own whose elements are of two types are two rows. -/
theorem owns_apart {w : World} {base base' : Nat} {e e' : TypeId} {size size' : Nat} {v v' : Value} {n n' : Nat} {xs xs' : List Value}
    (h : w.ownsRow base e size v n xs) (h' : w.ownsRow base' e' size' v' n' xs') (hne : e ≠ e') : v.ownBlock = none ∨ v.ownBlock ≠ v'.ownBlock := by
  rcases h.2 with ⟨rfl, _⟩ | ⟨g, cap, cur, rfl, _, hg, _⟩
  · exact .inl rfl
  · refine .inr ?_
    rcases h'.2 with ⟨rfl, _⟩ | ⟨g', cap', cur', rfl, _, hg', _⟩
    · simp [Value.ownBlock]
    · intro e
      simp only [Value.ownBlock, Option.some.injEq] at e
      subst e
      rw [hg] at hg'
      simp only [Option.some.injEq, Obj.cells.injEq] at hg'
      exact hne hg'.2.1

theorem Ext.grown {a w w' : World} {row : Option Nat} (h : Ext a w) (hg : w.grownBy w' row) (hr : ∀ k, row = some k → a.heap.size ≤ k) : Ext a w' := Below.grown h hg h.size hr
theorem Ext.owned {a w w' : World} {base : Nat} {e : TypeId} {size : Nat} {v : Value} {n : Nat} {xs : List Value} (h : Ext a w) (hg : w.grownBy w' v.ownBlock) (ho : w.ownsRow base e size v n xs) (hb : a.heap.size ≤ base) : Ext a w' :=
  h.grown hg fun k hk => Nat.le_trans hb (ho.lt k hk).1

theorem owns_ext {w w' : World} {base : Nat} {e : TypeId} {size : Nat} {v : Value} {n : Nat} {xs : List Value} (h : w.ownsRow base e size v n xs) (he : Ext w w') : w'.ownsRow base e size v n xs := by
  refine ⟨h.1, ?_⟩
  rcases h.2 with h0 | ⟨g, cap, cur, hv, hb, hg, r⟩
  · exact .inl h0
  · refine .inr ⟨g, cap, cur, hv, hb, ?_, r⟩
    have hlt : g < w.heap.size := by
      by_cases hlt : g < w.heap.size
      · exact hlt
      · have hn : w.heap[g]? = none := by simp; omega
        rw [hn] at hg; cases hg
    rw [Below.block he g hlt]; exact hg

/-- A row of the call's own, as a slice of elements of k cells each. -/
theorem sliceAt_of_owns {α : Type} {k : Nat} {w : World} {base : Nat} {e : TypeId} {v : Value} {n : Nat} {l : List α} (enc : α → List Value) (hk : ∀ x, (enc x).length = k)
    (h : w.ownsRow base e k v n (l.flatMap enc)) (hn : n = l.length) : ∃ s : SV, v = .slice s.a s.len s.cap ∧ SliceAt k (fun _ cs x => cs = enc x) w s l := by
  subst hn
  rcases h.2 with ⟨rfl, h0⟩ | ⟨g, cap, cur, rfl, hb, hg, hc, hm, hs, ht⟩
  · have : l = [] := List.length_eq_zero_iff.1 h0
    subst this
    exact ⟨⟨none, 0, 0⟩, rfl, rfl, fun i x hx => by simp at hx⟩
  · refine ⟨⟨some ⟨g, 0, none⟩, l.length, cap⟩, rfl, rfl, fun i x hx => ⟨g, 0, enc x, rfl, fun j v hv => ?_, rfl⟩⟩
    have hj : j < k := by
      have := (List.getElem?_eq_some_iff.1 hv).1
      rw [hk] at this; exact this
    have hi := (List.getElem?_eq_some_iff.1 hx).1
    have key : (l.flatMap enc)[i * k + j]? = some v := by
      clear h ht hs hc hm hg hb
      induction l generalizing i with
      | nil => simp at hi
      | cons y l ih =>
        rw [List.flatMap_cons]
        cases i with
        | zero =>
          simp only [List.getElem?_cons_zero, Option.some.injEq] at hx
          subst hx
          rw [Nat.zero_mul, Nat.zero_add, List.getElem?_append_left (by rw [hk]; exact hj)]
          exact hv
        | succ i =>
          rw [List.getElem?_append_right (by rw [hk, Nat.add_mul]; omega), hk, show (i + 1) * k + j - k = i * k + j by rw [Nat.add_mul]; omega]
          exact ih i (by simpa using hx) (by simpa using hi)
    have hlt : 0 + i * k + j < l.length * k := by
      have : (i + 1) * k ≤ l.length * k := Nat.mul_le_mul_right k hi
      rw [Nat.add_mul] at this; omega
    rw [cell_of_row w g _ cur e _ hg]
    rw [← ht, List.getElem?_take] at key
    rw [if_pos (by omega)] at key
    rw [Nat.zero_add]
    simpa using key

theorem ok_of_owns {w : World} {base : Nat} {e : TypeId} {k n : Nat} {s : SV} {xs : List Value} (h : w.ownsRow base e k (.slice s.a s.len s.cap) n xs) : s.ok := by
  rcases h.2 with ⟨e, _⟩ | ⟨g, cap, cur, e, _, _, hc, _⟩
  · simp only [Value.slice.injEq] at e; exact ⟨by omega, fun _ => e.2.2⟩
  · simp only [Value.slice.injEq] at e; exact ⟨by omega, fun h => by rw [e.1] at h; cases h⟩

theorem fresh_of_owns {w w0 : World} {base : Nat} {e : TypeId} {k n : Nat} {s : SV} {xs : List Value} (h : w.ownsRow base e k (.slice s.a s.len s.cap) n xs) (hb : w0.heap.size ≤ base) : s.Fresh w0 := by
  intro ad ha
  exact Nat.le_trans hb (h.lt ad.block (by simp [Value.ownBlock, ha])).1

/-- append of one element, given as a new row of its own. -/
theorem wpList_app1 {P : Program} {w : World} {ops : Array Oper} {rest : List Oper} {o : Oper} {a : Act} {Q : Exit → Act → World → Prop} (s x : Operand) (t e : TypeId) (z : Value) (size bytes : Nat)
    (ht : P.underlying t = some (.slice e)) (hinfo : (P.info? e).map (fun i => (i.zero, i.size, i.bytes)) = some (some z, size, bytes)) (hzs : z.cells.size = size) (hsz : 0 < size) (hby : bytes ≤ 96)
    (hgd : o.guard = none) (ho : o.op = .call { callee := .builtin .append, args := #[s, x], argTypes := #[t, t] })
    (base : Nat) (v : Value) (n : Nat) (xs : List Value) (hs : a.eval s = v) (hown : w.ownsRow base e size v n xs)
    (g c : Nat) (news : List Value) (hx : a.eval x = .slice (some ⟨g, 0, none⟩) 1 c) (hl : news.length = size) (hnews : w.rangeAt g 0 news) (h1 : ∀ u ∈ news, u.oneCell' = true)
    (hn : n < 1048576) (hbase : base ≤ w.heap.size)
    (h : ∀ v' w', w'.ownsRow base e size v' (n + 1) (xs ++ news) → w.grownBy w' v.ownBlock → wpList P ops Q rest (a.put o.dst v') w') : wpList P ops Q (o :: rest) a w := by
  obtain ⟨i, hi, hz0, hz1, hz2⟩ := info_parts hinfo
  refine wpList_append_own w hgd s x t ho base e i z size bytes ht hi hz0 hz1 hz2 hzs hsz v n xs hs hown ⟨g, 0, none⟩ 1 c news hx (by rw [hl, Nat.one_mul]) (fun j u hu => ?_) h1 (by unfold maxLen; omega) ?_ hbase (fun v' w' h2 h3 _ => h v' w' h2 h3)
  · rw [Addr.add_mid]; exact hnews j u hu
  · have : (n + 1) * bytes ≤ 1048576 * 96 := Nat.mul_le_mul (by omega) hby
    omega

theorem flatMap_get {α β : Type} {k : Nat} {enc : α → List β} (hk : ∀ x, (enc x).length = k) : ∀ (l : List α) (j : Nat) (u : β), (l.flatMap enc)[j]? = some u → ∃ i r x, j = i * k + r ∧ r < k ∧ l[i]? = some x ∧ (enc x)[r]? = some u
  | [], j, u, h => by simp at h
  | y :: l, j, u, h => by
    rw [List.flatMap_cons] at h
    by_cases hj : j < k
    · rw [List.getElem?_append_left (by rw [hk]; exact hj)] at h
      exact ⟨0, j, y, by omega, hj, rfl, h⟩
    · rw [List.getElem?_append_right (by rw [hk]; omega), hk] at h
      obtain ⟨i, r, x, e, hr, hx, hu⟩ := flatMap_get hk l _ _ h
      exact ⟨i + 1, r, x, by rw [Nat.add_mul]; omega, hr, hx, hu⟩
theorem flatMap_len {α β : Type} {k : Nat} {enc : α → List β} (hk : ∀ x, (enc x).length = k) : ∀ (l : List α), (l.flatMap enc).length = l.length * k
  | [] => by simp
  | y :: l => by rw [List.flatMap_cons, List.length_append, hk, flatMap_len hk l, List.length_cons, Nat.add_mul]; omega

/-- A slice's elements, all its cells in a row. -/
theorem SliceAt.row {α : Type} {k : Nat} {w : World} {s : SV} {l : List α} {enc : α → List Value} (hk : ∀ x, (enc x).length = k) (h : SliceAt k (fun _ cs x => cs = enc x) w s l) {ad : Addr} (ha : s.a = some ad) :
    ∀ j u, (l.flatMap enc)[j]? = some u → w.cell? (ad.add j) = some u := by
  intro j u hu
  obtain ⟨i, r, x, rfl, hr, hx, hu⟩ := flatMap_get hk l j u hu
  obtain ⟨b, o, cs, h1, h2, rfl⟩ := h.2 i x hx
  rw [ha] at h1
  cases h1
  rw [Addr.add_mid]
  have := h2 r u hu
  rwa [Nat.add_assoc] at this

/-- append(nil, s...): a new slice of the same elements. -/
theorem run_app_all {α : Type} {P : Program} {w : World} (t ty e : TypeId) (z : Value) (k bytes : Nat)
    (ht : P.underlying t = some (.slice e)) (hinfo : (P.info? e).map (fun i => (i.zero, i.size, i.bytes)) = some (some z, k, bytes)) (hzs : z.cells.size = k) (hsz : 0 < k) (hby : bytes ≤ 96)
    (enc : α → List Value) (hk : ∀ x, (enc x).length = k) (h1 : ∀ x, ∀ u ∈ enc x, u.oneCell' = true) (base : Nat) (v : Value) (hown : w.ownsRow base e k v 0 []) (w0 : World) (hw0 : Ext w0 w) (hbase : w0.heap.size ≤ base) (hv : base ≤ w.heap.size) (s : SV) (l : List α) (hs : SliceAt k (fun _ cs x => cs = enc x) w s l) (h0 : s.a = none → s.len = 0 ∧ s.cap = 0) (hl : l.length ≤ 1048576) :
    ∃ (s' : SV) (w' : World), (Builtin.append_ #[t, t] ty #[v, .slice s.a s.len s.cap]).run P w = .ok (.slice s'.a s'.len s'.cap) w' ∧ SliceAt k (fun _ cs x => cs = enc x) w' s' l ∧ Ext w0 w' ∧ w.grownBy w' v.ownBlock ∧ w'.ownsRow base e k (.slice s'.a s'.len s'.cap) l.length (l.flatMap enc) := by
  obtain ⟨i, hi, hz0, hz1, hz2⟩ := info_parts hinfo
  obtain ⟨a, n, cap⟩ := s
  have hn := hs.1
  simp only at hn
  subst hn
  cases a with
  | none =>
    obtain ⟨e0, e1⟩ := h0 rfl
    simp only at e0 e1
    have : l = [] := List.length_eq_zero_iff.1 e0
    subst this
    subst e1
    have hr := run_append_owned_none (P := P) w base t ty e i k ht hi v 0 [] hown
    obtain ⟨s', hs', hsl⟩ := sliceAt_of_owns enc hk (l := []) hown rfl
    refine ⟨s', w, by rw [← hs']; exact hr, hsl, hw0, World.grownBy.refl _ _, ?_⟩
    rw [← hs']
    exact hown
  | some ad =>
    obtain ⟨v', w', hr, ho', hg, _⟩ := run_append_own (P := P) w base t ty e i z k bytes ht hi hz0 hz1 hz2 hzs hsz v 0 [] hown ad l.length cap (l.flatMap enc) (flatMap_len hk l) (hs.row hk rfl)
      (fun u hu => let ⟨x, _, hx⟩ := List.mem_flatMap.1 hu; h1 x u hx) (by unfold maxLen; omega)
      (by have : (0 + l.length) * bytes ≤ 1048576 * 96 := Nat.mul_le_mul (by omega) hby
          omega) hv
    rw [Nat.zero_add, List.nil_append] at ho'
    obtain ⟨s', rfl, hsl⟩ := sliceAt_of_owns enc hk ho' rfl
    exact ⟨s', w', hr, hsl, hw0.owned hg hown hbase, hg, ho'⟩

/-- .. as one operation of a region. -/
theorem wp_app_all {α : Type} {P : Program} {w : World} {o : Oper} {a : Act} {K : Act → World → Prop} {Q : Exit → Act → World → Prop} (d x : Operand) (t e : TypeId) (z : Value) (k bytes : Nat)
    (ho : o.op = .call { callee := .builtin .append, args := #[d, x], argTypes := #[t, t] })
    (ht : P.underlying t = some (.slice e)) (hinfo : (P.info? e).map (fun i => (i.zero, i.size, i.bytes)) = some (some z, k, bytes)) (hzs : z.cells.size = k) (hsz : 0 < k) (hby : bytes ≤ 96)
    (enc : α → List Value) (hk : ∀ x, (enc x).length = k) (h1 : ∀ x, ∀ u ∈ enc x, u.oneCell' = true) (base : Nat) (v : Value) (hown : w.ownsRow base e k v 0 []) (w0 : World) (hw0 : Ext w0 w) (hbase : w0.heap.size ≤ base) (hv : base ≤ w.heap.size) (hd : a.eval d = v) (s : SV) (l : List α) (hs : SliceAt k (fun _ cs x => cs = enc x) w s l) (h0 : s.a = none → s.len = 0 ∧ s.cap = 0) (hl : l.length ≤ 1048576)
    (hx : a.eval x = .slice s.a s.len s.cap)
    (h : ∀ (s' : SV) (w' : World), SliceAt k (fun _ cs x => cs = enc x) w' s' l → Ext w0 w' → w.grownBy w' v.ownBlock → w'.ownsRow base e k (.slice s'.a s'.len s'.cap) l.length (l.flatMap enc) → K (a.put o.dst (.slice s'.a s'.len s'.cap)) w') : o.wp P a w K Q := by
  obtain ⟨s', w', hr, hsl, hE, hg, hw'⟩ := run_app_all (P := P) (w := w) t o.type e z k bytes ht hinfo hzs hsz hby enc hk h1 base v hown w0 hw0 hbase hv s l hs h0 hl
  unfold Oper.wp execOp
  simp only [ho, resolve, invoke, builtin, Sem.run_bind, Sem.run_pure, Result.andThen_ok, List.map_toArray, List.map_cons, List.map_nil, hd, hx, hr]
  exact h s' w' hsl hE hg hw'
end Go.Proofs.YtblkgaoafejefaaDoor
