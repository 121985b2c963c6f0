import Derived.Test.YtblkgaoafejefaaDoorOwn
namespace Go.Proofs.YtblkgaoafejefaaDoor
set_option linter.unusedSimpArgs false
set_option linter.unusedVariables false
open Go.RowKit

/-- append(v, s...), v a row of the call's own: the row grows by the slice's elements. -/
theorem wpList_appAll {α : Type} {P : Program} {w : World} {ops : Array Oper} {rest : List Oper} {o : Oper} {a : Act} {Q : Exit → Act → World → Prop} (d x : Operand) (t e : TypeId) (z : Value) (k bytes : Nat)
    (hgd : o.guard = none) (ho : o.op = .call { callee := .builtin .append, args := #[d, x], argTypes := #[t, t] })
    (ht : P.underlying t = some (.slice e)) (hinfo : (P.info? e).map (fun i => (i.zero, i.size, i.bytes)) = some (some z, k, bytes)) (hzs : z.cells.size = k) (hsz : 0 < k) (hby : bytes ≤ 96)
    (enc : α → List Value) (hk : ∀ x, (enc x).length = k) (h1 : ∀ x, ∀ u ∈ enc x, u.oneCell' = true) (base : Nat) (v : Value) (m : List α) (hown : w.ownsRow base e k v m.length (m.flatMap enc)) (hv : base ≤ w.heap.size) (hd : a.eval d = v)
    (s : SV) (l : List α) (hs : SliceAt k (fun _ cs x => cs = enc x) w s l) (h0 : s.ok) (hx : a.eval x = .slice s.a s.len s.cap) (hl : m.length + l.length ≤ 1048576)
    (h : ∀ (v' : SV) (w' : World), w'.ownsRow base e k (.slice v'.a v'.len v'.cap) (m ++ l).length ((m ++ l).flatMap enc) → w.grownBy w' v.ownBlock → wpList P ops Q rest (a.put o.dst (.slice v'.a v'.len v'.cap)) w') : wpList P ops Q (o :: rest) a w := by
  obtain ⟨i, hi, hz0, hz1, hz2⟩ := info_parts hinfo
  refine wpList_plain hgd fun K hK => ?_
  obtain ⟨sa, sl, sc⟩ := s
  have hn := hs.1
  simp only at hn
  subst hn
  cases sa with
  | none =>
    obtain ⟨e0, e1⟩ := h0.nil rfl
    simp only at e0 e1
    have : l = [] := List.length_eq_zero_iff.1 e0
    subst this
    subst e1
    have hr := run_append_owned_none (P := P) w base t o.type e i k ht hi v m.length (m.flatMap enc) hown
    obtain ⟨s', hs', _⟩ := sliceAt_of_owns enc hk (l := m) hown rfl
    unfold Oper.wp execOp
    simp only [List.length_nil] at hx
    simp only [ho, resolve, invoke, builtin, Sem.run_bind, Sem.run_pure, Result.andThen_ok, List.map_toArray, List.map_cons, List.map_nil, hd, hx, hr]
    have := h s' w (by rw [List.append_nil, ← hs']; exact hown) (World.grownBy.refl _ _)
    rw [← hs'] at this
    exact hK _ _ this
  | some ad =>
    obtain ⟨v', w', hr, ho', hg, _⟩ := run_append_own (P := P) w base t o.type e i z k bytes ht hi hz0 hz1 hz2 hzs hsz v m.length (m.flatMap enc) hown ad l.length sc (l.flatMap enc) (flatMap_len hk l) (hs.row hk rfl)
      (fun u hu => let ⟨x, _, hx⟩ := List.mem_flatMap.1 hu; h1 x u hx) (by unfold maxLen; omega)
      (by have : (m.length + l.length) * bytes ≤ 1048576 * 96 := Nat.mul_le_mul (by omega) hby
          omega) hv
    rw [← List.flatMap_append, ← List.length_append] at ho'
    obtain ⟨s', rfl, _⟩ := sliceAt_of_owns enc hk ho' rfl
    unfold Oper.wp execOp
    simp only at hx
    simp only [ho, resolve, invoke, builtin, Sem.run_bind, Sem.run_pure, Result.andThen_ok, List.map_toArray, List.map_cons, List.map_nil, hd, hx, hr]
    exact hK _ _ (h s' w' ho' hg)
end Go.Proofs.YtblkgaoafejefaaDoor
