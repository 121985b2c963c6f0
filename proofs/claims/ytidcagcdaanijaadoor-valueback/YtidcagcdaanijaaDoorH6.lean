import Derived.Test.YtidcagcdaanijaaDoorH5
import Derived.WalkSmall
namespace Go.Proofs.YtidcagcdaanijaaDoor
set_option linter.unusedSimpArgs false
set_option linter.unusedVariables false
set_option linter.unusedSimpArgs false
set_option linter.unusedVariables false
open Go.RowKit

/-- What stands in a value, and how deep it stands. -/
structure BrM where
  sv : SV
  l : List ValueM
  d : Nat
abbrev BrM.cells (b : BrM) : List Value := [.slice b.sv.a b.sv.len b.sv.cap, .int .i64 b.d]
structure BrOk (K : Nat) (w : World) (b : BrM) : Prop where
  at_ : SliceAt 5 (ValueAt K) w b.sv b.l
  fits : ∀ x ∈ b.l, Fits K x
  one : 1 ≤ b.d
  low : b.d ≤ 1048577
def stC (k : Nat) : List BrM → Nat
  | [] => 0
  | b :: r => sumL (cntM k) b.l + stC k r
def stD (k : Nat) : List BrM → Nat
  | [] => 0
  | b :: r => max (bD k b.l b.d) (stD k r)
theorem stC_snoc (k : Nat) (b : BrM) : ∀ r : List BrM, stC k (r ++ [b]) = stC k r + sumL (cntM k) b.l
  | [] => by simp [stC]
  | a :: r => by rw [List.cons_append, stC, stC_snoc k b r, stC]; omega
theorem stD_snoc (k : Nat) (b : BrM) : ∀ r : List BrM, stD k (r ++ [b]) = max (stD k r) (bD k b.l b.d)
  | [] => by simp [stD]
  | a :: r => by rw [List.cons_append, stD, stD_snoc k b r, stD]; omega
theorem cnt_pos {k : Nat} {v : ValueM} : 1 ≤ cntM k v := by cases k <;> simp [cntM]
theorem st_len {k : Nat} : ∀ {st : List BrM}, (∀ b ∈ st, 0 < b.l.length) → st.length ≤ stC k st
  | [], _ => Nat.zero_le _
  | b :: r, h => by
    have h1 := st_len (k := k) (st := r) fun x hx => h x (by simp [hx])
    have h2 := h b (by simp)
    have h3 : 1 ≤ sumL (cntM k) b.l := by
      obtain ⟨x, hx⟩ : ∃ x, x ∈ b.l := List.exists_mem_of_length_pos h2
      exact Nat.le_trans cnt_pos (sumL_mem (f := cntM k) hx)
    rw [stC, List.length_cons]; omega
theorem own_some {w : World} {base : Nat} {e : TypeId} {size n : Nat} {a : Option Addr} {c : Nat} {xs : List Value} (h : w.ownsRow base e size (.slice a n c) n xs) (hn : 0 < n) : ∃ g, a = some ⟨g, 0, none⟩ := by
  rcases h.2 with ⟨e, h0⟩ | ⟨g, cap, cur, e, _⟩
  · omega
  · simp only [Value.slice.injEq] at e; exact ⟨g, e.1⟩
def lenOf : Value → Nat | .slice _ n _ => n | _ => 0
theorem info80 : (Tryd.prog.info? 80).map (fun i => (i.zero, i.size, i.bytes)) = some (some (.agg #[.slice none 0 0, .int .i64 0]), 2, 32) := by kernel_rfl
theorem one_br (b : BrM) : ∀ u ∈ b.cells, u.oneCell' = true := by intro u hu; simp at hu; rcases hu with rfl | rfl <;> rfl
theorem br_cells (l : List BrM) : (l.flatMap BrM.cells).length = l.length * 2 := flatMap_len (k := 2) (enc := BrM.cells) (fun _ => rfl) l
theorem row2 {w : World} {g : Nat} {t : TypeId} {c0 c1 : Value} (hb : w.heap[g]? = some (.cells #[c0, c1] t (0, 0))) : w.cell? ⟨g, 0, none⟩ = some c0 ∧ w.cell? ⟨g, 1, none⟩ = some c1 ∧ ∀ j, w.frozen? ⟨g, j, none⟩ = false :=
  ⟨cell_of_row w g 0 _ t _ hb, cell_of_row w g 1 _ t _ hb, fun j => frozen_of_row w g j _ t hb⟩
theorem range_of_new2 (w : World) (u0 u1 : Value) (t : TypeId) {g : Nat} (hg : g = w.heap.size) : (w.alloc (.cells #[u0, u1] t)).rangeAt g 0 [u0, u1] := by
  subst hg
  obtain ⟨h0, h1, _⟩ := row2 (heap_alloc_new w (.cells #[u0, u1] t))
  intro j v hv
  match j, hv with
  | 0, hv => cases hv; exact h0
  | 1, hv => cases hv; exact h1

theorem own_off {w' : World} {A base n : Nat} {v' : Value} {xs : List Value} {a0 a1 u0 u1 : Value} (hA : w'.heap[A]? = some (.cells #[a0, a1] 80 (0, 0))) (ho : w'.ownsRow base 80 2 v' (n + 1) (xs ++ [u0, u1])) (hl : xs.length = n * 2) (hne : u1 ≠ a1) : v'.ownBlock ≠ some A := by
  intro e
  rcases ho.2 with ⟨_, h0⟩ | ⟨g, cap, cur, rfl, _, hg, hc, _, hs, ht⟩
  · omega
  · simp only [Value.ownBlock, Option.some.injEq] at e
    subst e
    rw [hA] at hg
    simp only [Option.some.injEq, Obj.cells.injEq] at hg
    obtain ⟨rfl, _⟩ := hg
    have hs' : 2 = cap * 2 := hs
    have hn : n = 0 := by omega
    subst hn
    have hx : xs = [] := List.length_eq_zero_iff.1 (by omega)
    subst hx
    simp at ht
    exact hne ht.2.symm
theorem dep_cnt : ∀ {k : Nat} {v : ValueM}, depM k v ≤ cntM k v
  | 0, _ => Nat.le_refl _
  | k + 1, v => by
    show 1 + maxL (depM k) v.l ≤ 1 + sumL (cntM k) v.l
    have : maxL (depM k) v.l ≤ sumL (cntM k) v.l := maxL_le fun x hx => Nat.le_trans dep_cnt (sumL_mem (f := cntM k) hx)
    omega

/-- What Size's loop says: never too much, and all of it where both are within their bounds. -/
structure SizeIs (K : Nat) (v : ValueM) (mD mC : Int) (d c : Nat) : Prop where
  dep : d ≤ depM K v
  cnt : c ≤ cntM K v
  all : (d : Int) ≤ mD → (c : Int) ≤ mC → d = depM K v ∧ c = cntM K v
  one : 1 ≤ d

set_option maxHeartbeats 6400000 in
set_option maxRecDepth 10000 in
theorem sizeWithin_any (K : Nat) (v : ValueM) (ids l : SV) (mD mC : Int) (w : World) (hv : ValueAt K w [.int .i64 v.kind, .int .i64 v.n, .string v.s, .slice ids.a ids.len ids.cap, .slice l.a l.len l.cap] v) (hb : cntM K v ≤ 1048576) :
    Calls Tryd.prog 20 #[.agg #[.int .i64 v.kind, .int .i64 v.n, .string v.s, .slice ids.a ids.len ids.cap, .slice l.a l.len l.cap], .int .i64 mD, .int .i64 mC] w fun e w' => ∃ d c : Nat, e = .returned (.tuple #[.int .i64 d, .int .i64 c]) ∧ SizeIs K v mD mC d c ∧ Ext w w' := by
  obtain ⟨ids', l', he, _, hl, _, hok⟩ := hv.opens
  simp only [List.cons.injEq, Value.slice.injEq, and_true, true_and] at he
  obtain ⟨⟨i1, i2, i3⟩, l1, l2, l3⟩ := he
  obtain rfl : l = l' := by cases l; cases l'; simp_all
  have hfit := hv.fits
  have hct := cnt_step hfit
  have hdt := dep_step hfit
  have hfi := hfit.inner
  clear hv i1 i2 i3 l1 l2 l3
  go_enter Tryd.func20, Tryd.ntmps20
  go_wp2
  have hx0 : Ext w ((w.alloc (.cells #[.int .i64 v.kind, .int .i64 v.n, .string v.s, .slice ids.a ids.len ids.cap, .slice l.a l.len l.cap] 28)).alloc (.cells #[.slice l.a l.len l.cap, .int .i64 2] 80)) := ((Ext.refl w).alloc _).alloc _
  have ho0 : ((w.alloc (.cells #[.int .i64 v.kind, .int .i64 v.n, .string v.s, .slice ids.a ids.len ids.cap, .slice l.a l.len l.cap] 28)).alloc (.cells #[.slice l.a l.len l.cap, .int .i64 2] 80)).ownsRow (w.heap.size + 1) 80 2 (.slice (some ⟨w.heap.size + 1, 0, none⟩) 1 1) 1 [.slice l.a l.len l.cap, .int .i64 2] := by
    have := World.ownsRow_lit (base := w.heap.size + 1) (e := 80) (size := 2) (w.alloc (.cells #[.int .i64 v.kind, .int .i64 v.n, .string v.s, .slice ids.a ids.len ids.cap, .slice l.a l.len l.cap] 28)) #[.slice l.a l.len l.cap, .int .i64 2] 1 (by simp) (by unfold maxLen; decide) rfl
    simpa using this
  have hTd : depM K v ≤ 1048576 := Nat.le_trans dep_cnt hb
  obtain ⟨T, hT⟩ : ∃ T, T = cntM K v := ⟨_, rfl⟩
  obtain ⟨D, hD⟩ : ∃ D, D = depM K v := ⟨_, rfl⟩
  rw [← hT] at hct hb
  rw [← hD] at hdt hTd
  have HT := hide hT
  have HD := hide hD
  clear hT hD
  go_loopw [8, 9, 10] (fun vd vc vt wr => ∃ (d c : Nat) (st : List BrM), vd = .int .i64 d ∧ vc = .int .i64 c ∧ wr.ownsRow (w.heap.size + 1) 80 2 vt st.length (st.flatMap BrM.cells) ∧ (∀ b ∈ st, BrOk K w b) ∧ max d (stD K st) = D ∧ c + stC K st = T ∧ 1 ≤ d ∧ (∀ b ∈ st, 0 < b.l.length ∨ st.length ≤ 1) ∧ Ext w wr) (fun _ vc vt _ => 2 * (T - (intOf vc).toNat) + lenOf vt)
  case atStart =>
    refine ⟨1, 1, [⟨l, v.l, 2⟩], rfl, rfl, ho0, fun b hb' => ?_, ?_, ?_, by omega, fun b _ => .inr (by simp), hx0⟩
    · obtain rfl : b = ⟨l, v.l, 2⟩ := by simpa using hb'
      exact ⟨hl, hfi, by simp, by simp⟩
    · simp only [stD]
      rw [hdt]
      cases hvl : v.l with
      | nil => rw [bD_nil]; simp [maxL]
      | cons y t => rw [bD_in K 1 (y :: t) (by simp)]; omega
    · simp only [stC]; omega
  case round =>
    obtain ⟨d, c, st, rfl, rfl, hown, hbr, hDD, hCC, h1, hne, hx⟩ := hrel
    obtain ⟨ta, tc, rfl⟩ := owns_slice hown
    have hd : d ≤ D := by omega
    have hc : c ≤ T := by omega
    rcases List.eq_nil_or_concat st with rfl | ⟨st0, b, hst⟩
    · go_wp2
      refine bodyPost_ret (v := .tuple #[.int .i64 d, .int .i64 c]) (by simp [results, Tryd.results20, go_sem]) rfl ?_
      refine ⟨d, c, rfl, ⟨by rw [← unhide HD]; exact hd, by rw [← unhide HT]; exact hc, fun _ _ => ?_, h1⟩, hx⟩
      rw [← unhide HD, ← unhide HT]
      simp only [stD, stC] at hDD hCC
      exact ⟨by omega, by omega⟩
    rw [List.concat_eq_append] at hst
    subst hst
    by_cases hmd : (d : Int) ≤ mD
    case neg =>
      go_wp2
      refine bodyPost_ret (v := .tuple #[.int .i64 d, .int .i64 c]) (by simp [results, Tryd.results20, go_sem]) rfl ?_
      exact ⟨d, c, rfl, ⟨by rw [← unhide HD]; exact hd, by rw [← unhide HT]; exact hc, fun h _ => by omega, h1⟩, hx⟩
    by_cases hmc : (c : Int) ≤ mC
    case neg =>
      go_wp2
      refine bodyPost_ret (v := .tuple #[.int .i64 d, .int .i64 c]) (by simp [results, Tryd.results20, go_sem]) rfl ?_
      exact ⟨d, c, rfl, ⟨by rw [← unhide HD]; exact hd, by rw [← unhide HT]; exact hc, fun _ h => by omega, h1⟩, hx⟩
    have hln : (st0 ++ [b]).length = st0.length + 1 := by simp
    rw [hln] at hown ⊢
    rw [List.flatMap_append, show [b].flatMap BrM.cells = b.cells by simp] at hown
    rw [stC_snoc] at hCC
    rw [stD_snoc] at hDD
    have hbo := hbr b (by simp)
    have hbr0 : ∀ b ∈ st0, BrOk K w b := fun x hx' => hbr x (by simp [hx'])
    obtain ⟨g, rfl⟩ := own_some hown (by omega)
    have hpop := ownsRow_pop (br_cells st0) hown
    have q0 : wr.cell? ⟨g, st0.length * 2, none⟩ = some (.slice b.sv.a b.sv.len b.sv.cap) := by
      rw [hown.cellAt _ (by omega), List.getElem?_append_right (by rw [br_cells]; omega), br_cells]; simp
    have q1 : wr.cell? ⟨g, st0.length * 2 + 1, none⟩ = some (.int .i64 b.d) := by
      rw [hown.cellAt _ (by omega), List.getElem?_append_right (by rw [br_cells]; omega), br_cells]; simp
    have hcap : st0.length + 1 ≤ tc := by
      rcases hown.2 with ⟨h', _⟩ | ⟨_, _, _, h', _, _, h'', _⟩
      · cases h'
      · simp only [Value.slice.injEq] at h'; omega
    have hgl : g < wr.heap.size := (hown.lt g rfl).2
    have hgb : w.heap.size + 1 ≤ g := (hown.lt g rfl).1
    have hne0 : ∀ b ∈ st0, 0 < b.l.length := fun x hx' => by
      rcases hne x (by simp [hx']) with h | h
      · exact h
      · rw [hln] at h
        have : st0 = [] := List.length_eq_zero_iff.1 (by omega)
        rw [this] at hx'; cases hx'
    have hstn : st0.length ≤ 1048576 := by have := st_len (k := K) hne0; omega
    have hsum := sum_inC hbo.fits
    have hlen := hbo.at_.1
    have hbl : b.l.length ≤ 1048576 := by omega
    have hwr : IntKind.i64.wrap (st0.length : Int) = (st0.length : Int) := by rw [IntKind.wrap_i64]; omega
    have Hpop := hide hpop
    have Hbr := hide hbr0
    have Hbo := hide hbo
    clear hown hbr hbr0 hbo hpop
    obtain ⟨⟨ba, bn, bc⟩, bl, bd⟩ := b
    simp only at hlen hsum hbl q0 q1 hDD hCC
    subst hlen
    go_wp2
    rename World => wo
    obtain ⟨D0, hD0⟩ : ∃ n, n = wo.heap.size := ⟨_, rfl⟩
    go_loopw [8, 10, 50] (fun vd vt i wr => ∃ (k d' : Nat) (st' : List BrM), k ≤ bl.length ∧ i = .int .i64 k ∧ vd = .int .i64 d' ∧ wr.ownsRow (w.heap.size + 1) 80 2 vt st'.length (st'.flatMap BrM.cells) ∧ (∀ b ∈ st', BrOk K w b) ∧ (∀ b ∈ st', 0 < b.l.length) ∧ max (max d' (stD K st')) (bD K (bl.drop k) bd) = D ∧ c + bl.length + stC K st' + inC K (bl.drop k) = T ∧ 1 ≤ d' ∧ st'.length + (bl.length - k) ≤ st0.length + bl.length ∧ wr.heap[wo.heap.size]? = some (.cells #[.slice ba bl.length bc, .int .i64 bd] 80 (0, 0)) ∧ vt.ownBlock ≠ some wo.heap.size ∧ Ext w wr) (fun _ _ i _ => bl.length - (intOf i).toNat)
    case atStart =>
      refine ⟨0, d, st0, by omega, rfl, rfl, (unhide Hpop).alloc _, unhide Hbr, hne0, ?_, ?_, h1, by omega, heap_alloc_new _ _, ?_, hx.alloc _⟩
      · rw [List.drop_zero]; omega
      · rw [List.drop_zero]; omega
      · simp [Value.ownBlock]; omega
    case round =>
      obtain ⟨k, d', st', hk, rfl, rfl, hown, hbr, hne', hDD', hCC', h1', hsl, hA, hoff, hx'⟩ := hrel
      obtain ⟨ta, tc', rfl⟩ := owns_slice hown
      obtain ⟨a0, a1, af⟩ := row2 hA
      have hAz := lt_of_heap hA
      by_cases hlt : k < bl.length
      · obtain ⟨xb, xo, cs, rfl, hr, hxv⟩ := (unhide Hbo).at_.2 k bl[k] (by simp [hlt])
        obtain ⟨xi, xl, rfl, _, hxl, _, hxok⟩ := hxv.opens
        obtain ⟨c0, c1, c2, c3, c4⟩ := range5 (hx'.range hr)
        have hfx := hxv.fits
        rw [List.drop_eq_getElem_cons hlt] at hDD' hCC'
        rw [bD_cons hfx (unhide Hbo).one] at hDD'
        have hin : inC K (bl[k] :: bl.drop (k + 1)) = sumL (cntM K) bl[k].l + inC K (bl.drop (k + 1)) := rfl
        rw [hin] at hCC'
        have hxn := hxl.1
        have hbd := (unhide Hbo).low
        have hbd1 := (unhide Hbo).one
        simp only at hbd hbd1
        have hxs : bl[k].l.length ≤ sumL (cntM K) bl[k].l := by rw [sum_inC hfx.inner]; omega
        generalize bl[k] = x at *
        obtain ⟨xla, xln, xlc⟩ := xl
        simp only at hxn c4
        subst hxn
        have hxl63 : x.l.length ≤ 1048576 := by omega
        have hst' : st'.length ≤ 1048576 := by have := st_len (k := K) hne'; omega
        have hmx : max (d' : Int) (bd : Int) = ((max d' bd : Nat) : Int) := by omega
        simp only at hDD'
        by_cases hx0 : 0 < x.l.length
        · have hx0' : (0 : Int) < (x.l.length : Int) := by omega
          have Hown := hide hown
          have Hbr' := hide hbr
          clear hr hxv hbr hin
          go_wp2_with (at_builtin; refine wpList_app1 _ _ 81 80 (.agg #[.slice none 0 0, .int .i64 0]) 2 32 Tryd.underlying81 info80 rfl (by decide) (by decide) rfl rfl (w.heap.size + 1) _ st'.length _ rfl (((unhide Hown).alloc _).alloc _) (wr.heap.size + 1) 1 (BrM.cells ⟨⟨xla, x.l.length, xlc⟩, x.l, bd + 1⟩) rfl rfl ?c1 ?c2 ?c3 ?c4 ?_)
          case c1 => exact range_of_new2 _ _ _ _ (by simp)
          case c2 => exact one_br _
          case c3 => have := st_len (k := K) hne'; omega
          case c4 => simp; omega
          intro v1 w1 ho1 hg1
          have hoa := ((unhide Hown).alloc (.cells #[.int .i64 x.kind, .int .i64 x.n, .string x.s, .slice xi.a xi.len xi.cap, .slice xla x.l.length xlc] 28)).alloc (.cells #[.slice xla x.l.length xlc, .int .i64 ((bd : Int) + 1)] 80)
          have hA2 := (((Ext.refl wr).alloc (.cells #[.int .i64 x.kind, .int .i64 x.n, .string x.s, .slice xi.a xi.len xi.cap, .slice xla x.l.length xlc] 28)).alloc (.cells #[.slice xla x.l.length xlc, .int .i64 ((bd : Int) + 1)] 80)).heap hA
          have hA1 : w1.heap[wo.heap.size]? = some (.cells #[.slice (some ⟨xb, xo, none⟩) bl.length bc, .int .i64 bd] 80 (0, 0)) := by
            rw [hg1.block _ (lt_of_heap hA2) (fun e => hoff e.symm)]; exact hA2
          have hoff1 := own_off hA1 ho1 (br_cells st') (by simp; omega)
          have hE1 : Ext w w1 := ((hx'.alloc _).alloc _).owned hg1 hoa (by omega)
          have ho1' : w1.ownsRow (w.heap.size + 1) 80 2 v1 (st' ++ [(⟨⟨xla, x.l.length, xlc⟩, x.l, bd + 1⟩ : BrM)]).length ((st' ++ [(⟨⟨xla, x.l.length, xlc⟩, x.l, bd + 1⟩ : BrM)]).flatMap BrM.cells) := by
            rw [List.length_append, List.length_singleton, List.flatMap_append]
            simpa using ho1
          have hbin := bD_in K bd x.l hx0
          have hml : 1 ≤ maxL (depM K) x.l := by
            obtain ⟨y, hy⟩ : ∃ y, y ∈ x.l := List.exists_mem_of_length_pos hx0
            have h1 := maxL_mem (f := depM K) hy
            have h2 : 1 ≤ depM K y := by cases K <;> simp [depM]
            omega
          have Ho1 := hide ho1'
          have Hoff1 := hide hoff1
          have HA1 := hide hA1
          clear ho1 ho1' hA1 hoff1 hA2 hoa hg1
          go_wp2
          refine ⟨⟨k + 1, max d' bd, st' ++ [(⟨⟨xla, x.l.length, xlc⟩, x.l, bd + 1⟩ : BrM)], by omega, by go_num, rfl, unhide Ho1, fun b hb' => ?_, fun b hb' => ?_, ?_, ?_, by omega, ?_, unhide HA1, unhide Hoff1, hE1⟩, by simp [intOf]; omega⟩
          · rcases List.mem_append.1 hb' with h | h
            · exact unhide Hbr' b h
            · obtain rfl : b = ⟨⟨xla, x.l.length, xlc⟩, x.l, bd + 1⟩ := by simpa using h
              exact ⟨hxl, hfx.inner, by simp, by simp only; omega⟩
          · rcases List.mem_append.1 hb' with h | h
            · exact hne' b h
            · obtain rfl : b = ⟨⟨xla, x.l.length, xlc⟩, x.l, bd + 1⟩ := by simpa using h
              exact hx0
          · rw [stD_snoc]; simp only; omega
          · rw [stC_snoc]; simp only; omega
          · rw [List.length_append, List.length_singleton]; omega
        · have hz0 : x.l.length = 0 := by omega
          rw [hz0] at c4
          have Hz0 := hide hz0
          clear hz0
          have Hown := hide hown
          have Hbr' := hide hbr
          clear hr hxv hin hbr hx0
          go_wp2
          refine ⟨⟨k + 1, max d' bd, st', by omega, by go_num, rfl, (unhide Hown).alloc _, unhide Hbr', hne', ?_, ?_, by omega, by omega, ((Ext.refl _).alloc _).heap hA, hoff, hx'.alloc _⟩, by simp [intOf]; omega⟩
          · have e0 : bD K x.l (bd + 1) = 0 := by rw [List.length_eq_zero_iff.1 (unhide Hz0)]; rfl
            omega
          · have e0 : sumL (cntM K) x.l = 0 := by rw [List.length_eq_zero_iff.1 (unhide Hz0)]; rfl
            omega
      · have hdrop : bl.drop k = [] := List.drop_eq_nil_of_le (by omega)
        rw [hdrop] at hDD' hCC'
        rw [bD_nil] at hDD'
        have hi0 : inC K [] = 0 := rfl
        rw [hi0] at hCC'
        have Hown := hide hown
        have Hbr' := hide hbr
        clear hown hbr
        go_wp2
        refine ⟨⟨d', c + bl.length, st', rfl, by go_num, unhide Hown, unhide Hbr', by omega, by omega, h1', fun b hb' => .inl (hne' b hb'), hx'⟩, ?_⟩
        simp [intOf, lenOf]
        omega
end Go.Proofs.YtidcagcdaanijaaDoor

namespace Go.Proofs.YtidcagcdaanijaaDoor
set_option linter.unusedSimpArgs false
set_option linter.unusedVariables false
open Go.RowKit

def largeB (K : Nat) (v : ValueM) : Bool := decide (24 < depM K v) || decide (400 < cntM K v)
theorem large_of {K : Nat} {v : ValueM} {d c : Nat} (h : SizeIs K v 24 400 d c) : (decide (24 < (d : Int)) || decide (400 < (c : Int))) = largeB K v := by
  have h1 := h.dep
  have h2 := h.cnt
  have h3 := h.all
  unfold largeB
  by_cases hd : (d : Int) ≤ 24
  · by_cases hc : (c : Int) ≤ 400
    · obtain ⟨e1, e2⟩ := h3 hd hc
      rw [← e1, ← e2]
      congr 1
      · exact decide_eq_decide.2 (by omega)
      · exact decide_eq_decide.2 (by omega)
    · rw [show decide (400 < (c : Int)) = true by simp; omega, show decide (400 < cntM K v) = true by simp; omega]; simp
  · rw [show decide (24 < (d : Int)) = true by simp; omega, show decide (24 < depM K v) = true by simp; omega]; simp

set_option maxHeartbeats 800000 in
theorem tooLarge_any (K : Nat) (v : ValueM) (ids l : SV) (w : World) (hv : ValueAt K w [.int .i64 v.kind, .int .i64 v.n, .string v.s, .slice ids.a ids.len ids.cap, .slice l.a l.len l.cap] v) (hb : cntM K v ≤ 1048576) :
    Calls Tryd.prog 16 #[.agg #[.int .i64 v.kind, .int .i64 v.n, .string v.s, .slice ids.a ids.len ids.cap, .slice l.a l.len l.cap]] w fun e w' => e = .returned (.bool (largeB K v)) ∧ Ext w w' := by
  have hx0 : Ext w (w.alloc (.cells #[.int .i64 v.kind, .int .i64 v.n, .string v.s, .slice ids.a ids.len ids.cap, .slice l.a l.len l.cap] 28)) := (Ext.refl w).alloc _
  have Hv := hide (hv.ext hx0)
  clear hv
  go_enter Tryd.func16, Tryd.ntmps16
  go_wp2_with fail
  refine (sizeWithin_any K v ids l 24 400 _ (unhide Hv) hb).mono ?_
  rintro e w1 ⟨d, c, rfl, hsz, hx1⟩
  have hl := large_of hsz
  have HL := hide hl
  clear hl hsz
  by_cases hd : 24 < (d : Int)
  · have hdd : decide (24 < (d : Int)) = true := by simpa using hd
    go_wp2
    go_ret
    exact ⟨ret_bool (by rw [← unhide HL]; simp [hd]), hx0.trans hx1⟩
  · by_cases hc : 400 < (c : Int)
    · go_wp2
      go_ret
      exact ⟨ret_bool (by rw [← unhide HL]; simp [hc]), hx0.trans hx1⟩
    · go_wp2
      go_ret
      exact ⟨ret_bool (by rw [← unhide HL, show decide (24 < (d : Int)) = false from decide_eq_false (by omega), show decide (400 < (c : Int)) = false from decide_eq_false (by omega)]), hx0.trans hx1⟩
end Go.Proofs.YtidcagcdaanijaaDoor

namespace Go.Proofs.YtidcagcdaanijaaDoor
set_option linter.unusedSimpArgs false
set_option linter.unusedVariables false
open Go.RowKit

theorem fieldCells (f : FieldM) : f.cells.toArray = #[.int .i64 f.id, .string f.name, .string f.type, .int .i64 f.kind, .int .i64 f.rule] := rfl
def ValueM.zero : ValueM := ⟨0, 0, ⟨#[]⟩, [], []⟩
/-- No list and no text of it is longer than the walks bear. -/
def SmallV : Nat → ValueM → Prop
  | 0, _ => False
  | k + 1, v => v.s.size ≤ 1048576 ∧ v.ids.length ≤ 1048576 ∧ v.l.length ≤ 1048576 ∧ ∀ x ∈ v.l, SmallV k x
theorem SmallV.parts {k : Nat} {v : ValueM} (h : SmallV k v) : v.s.size ≤ 1048576 ∧ v.ids.length ≤ 1048576 ∧ v.l.length ≤ 1048576 := by
  cases k with
  | zero => exact h.elim
  | succ k => exact ⟨h.1, h.2.1, h.2.2.1⟩
/-- What is wrong first. -/
def firstE (p : Nat → Int) : Nat → Nat → Int
  | _, 0 => 0
  | i, n + 1 => if p i ≠ 0 then p i else firstE p (i + 1) n
def wrongAt (ts : BookM) (rec : TypeM → ValueM → Int) (t : TypeM) (v : ValueM) (i : Nat) : Int :=
  if (fieldM t (v.ids.getD i 0)).isSome = false then 3
  else if orderN ((fieldM t (v.ids.getD i 0)).getD FieldM.zero) (v.ids.take i) ≠ 0 then orderN ((fieldM t (v.ids.getD i 0)).getD FieldM.zero) (v.ids.take i)
  else if wrongOneN ts ((fieldM t (v.ids.getD i 0)).getD FieldM.zero) (v.l.getD i ValueM.zero).kind (v.l.getD i ValueM.zero).n (v.l.getD i ValueM.zero).s (v.l.getD i ValueM.zero).ids.length (v.l.getD i ValueM.zero).l.length ≠ 0 then wrongOneN ts ((fieldM t (v.ids.getD i 0)).getD FieldM.zero) (v.l.getD i ValueM.zero).kind (v.l.getD i ValueM.zero).n (v.l.getD i ValueM.zero).s (v.l.getD i ValueM.zero).ids.length (v.l.getD i ValueM.zero).l.length
  else if ((fieldM t (v.ids.getD i 0)).getD FieldM.zero).kind ≠ 5 then 0
  else rec ((findM ts ((fieldM t (v.ids.getD i 0)).getD FieldM.zero).type).getD TypeM.zero) (v.l.getD i ValueM.zero)
def wrongM (ts : BookM) : Nat → TypeM → ValueM → Int
  | 0, _, _ => 0
  | k + 1, t, v => if v.kind ≠ 2 then 5 else if v.l.length ≠ v.ids.length ∨ oneKindB v.kind v.n v.s v.ids.length v.l.length = false then 1
    else if firstE (wrongAt ts (wrongM ts k) t v) 0 v.ids.length ≠ 0 then firstE (wrongAt ts (wrongM ts k) t v) 0 v.ids.length else if lacksB t v.ids = true then 3 else 0
theorem firstE_bad {p : Nat → Int} {i n : Nat} (hn : 0 < n) (h : p i ≠ 0) : firstE p i n = p i := by
  cases n with
  | zero => omega
  | succ n => rw [firstE, if_pos h]
theorem firstE_ok {p : Nat → Int} {i n : Nat} (hn : 0 < n) (h : p i = 0) : firstE p i n = firstE p (i + 1) (n - 1) := by
  cases n with
  | zero => omega
  | succ n => rw [firstE, if_neg (by simp [h])]; rfl

set_option maxHeartbeats 12800000 in
set_option maxRecDepth 10000 in
theorem wrongMessage_any (sb : SV) (ts : BookM) (hn : ts.Small) : ∀ (k : Nat) (tv : TV) (t : TypeM) (v : ValueM) (ids l : SV) (w : World), BookAt w sb ts → TypeAt w tv t → t.Small → SmallV k v →
    ValueAt k w [.int .i64 v.kind, .int .i64 v.n, .string v.s, .slice ids.a ids.len ids.cap, .slice l.a l.len l.cap] v →
    Calls Tryd.prog 17 #[.agg #[.slice sb.a sb.len sb.cap], .agg #[.string tv.name, .bool tv.enum, .slice tv.fields.a tv.fields.len tv.fields.cap, .slice tv.gone.a tv.gone.len tv.gone.cap, .slice tv.items.a tv.items.len tv.items.cap], .agg #[.int .i64 v.kind, .int .i64 v.n, .string v.s, .slice ids.a ids.len ids.cap, .slice l.a l.len l.cap]] w fun e w' => e = .returned (.int .i64 (wrongM ts k t v)) ∧ Ext w w' := by
  intro k
  induction k with
  | zero => intro _ _ _ _ _ _ _ _ _ h; exact h.elim
  | succ k ih =>
    intro tv t v ids l w hb ht hts hsv hv
    obtain ⟨ids', l', he, hids, hl, hiok, hlok⟩ := hv
    simp only [List.cons.injEq, Value.slice.injEq, and_true, true_and] at he
    obtain ⟨⟨i1, i2, i3⟩, l1, l2, l3⟩ := he
    obtain rfl : l = l' := by cases l; cases l'; simp_all
    obtain rfl : ids = ids' := by cases ids; cases ids'; simp_all
    clear i1 i2 i3 l1 l2 l3
    obtain ⟨hsz, hin, hln, hall⟩ := hsv
    obtain ⟨ia, il, ic⟩ := ids
    obtain ⟨la, ll, lc⟩ := l
    have eil := hids.1
    have ell := hl.1
    simp only at eil ell
    subst eil ell
    obtain ⟨R, hR⟩ : ∃ R, R = wrongM ts (k + 1) t v := ⟨_, rfl⟩
    rw [← hR]
    have E : Hid (R = if v.kind ≠ 2 then 5 else if v.l.length ≠ v.ids.length ∨ oneKindB v.kind v.n v.s v.ids.length v.l.length = false then 1
      else if firstE (wrongAt ts (wrongM ts k) t v) 0 v.ids.length ≠ 0 then firstE (wrongAt ts (wrongM ts k) t v) 0 v.ids.length else if lacksB t v.ids = true then 3 else 0) := hR
    clear hR
    have HP : Hid (∀ i, wrongAt ts (wrongM ts k) t v i = wrongAt ts (wrongM ts k) t v i) := fun _ => rfl
    have Hv : Hid (∀ i (h : i < v.ids.length) (h' : i < v.l.length), wrongAt ts (wrongM ts k) t v i =
      if (fieldM t v.ids[i]).isSome = false then 3
      else if orderN ((fieldM t v.ids[i]).getD FieldM.zero) (v.ids.take i) ≠ 0 then orderN ((fieldM t v.ids[i]).getD FieldM.zero) (v.ids.take i)
      else if wrongOneN ts ((fieldM t v.ids[i]).getD FieldM.zero) v.l[i].kind v.l[i].n v.l[i].s v.l[i].ids.length v.l[i].l.length ≠ 0 then wrongOneN ts ((fieldM t v.ids[i]).getD FieldM.zero) v.l[i].kind v.l[i].n v.l[i].s v.l[i].ids.length v.l[i].l.length
      else if ((fieldM t v.ids[i]).getD FieldM.zero).kind ≠ 5 then 0
      else wrongM ts k ((findM ts ((fieldM t v.ids[i]).getD FieldM.zero).type).getD TypeM.zero) v.l[i]) := fun i h h' => by
        unfold wrongAt
        rw [show v.ids.getD i 0 = v.ids[i] by simp [List.getD, h], show v.l.getD i ValueM.zero = v.l[i] by simp [List.getD, h']]
    generalize wrongAt ts (wrongM ts k) t v = P at *
    clear HP
    obtain ⟨vk, vn, vs, vids, vl⟩ := v
    simp only at E Hv hids hl hsz hin hln hall hiok hlok
    show Calls Tryd.prog 17 #[.agg #[.slice sb.a sb.len sb.cap], .agg #[.string tv.name, .bool tv.enum, .slice tv.fields.a tv.fields.len tv.fields.cap, .slice tv.gone.a tv.gone.len tv.gone.cap, .slice tv.items.a tv.items.len tv.items.cap], .agg #[.int .i64 vk, .int .i64 vn, .string vs, .slice ia vids.length ic, .slice la vl.length lc]] w _
    have Hn := hide hn
    have Hb := hide hb
    have Ht := hide ht
    have Hts := hide hts
    have Hids := hide hids
    have Hl := hide hl
    have Hall := hide hall
    have hic := hiok.1
    simp only at hic
    clear hn hb ht hts hids hl hall
    have hii : vids.length ≤ 9223372036854775807 := by omega
    have hli : vl.length ≤ 9223372036854775807 := by omega
    have hX0 : Ext w (((w.alloc (.cells #[.slice sb.a sb.len sb.cap] 24)).alloc (.cells #[.string tv.name, .bool tv.enum, .slice tv.fields.a tv.fields.len tv.fields.cap, .slice tv.gone.a tv.gone.len tv.gone.cap, .slice tv.items.a tv.items.len tv.items.cap] 50)).alloc (.cells #[.int .i64 vk, .int .i64 vn, .string vs, .slice ia vids.length ic, .slice la vl.length lc] 28)) := (((Ext.refl w).alloc _).alloc _).alloc _
    by_cases hk2 : vk = 2
    case neg =>
      have Hr : Hid (R = 5) := by unfold Hid; rw [E.out, if_pos hk2]
      clear E
      go_enter Tryd.func17, Tryd.ntmps17
      go_wp2
      go_ret
      exact ⟨ret_int (unhide Hr).symm, hX0⟩
    subst hk2
    by_cases hlen : vl.length = vids.length
    case neg =>
      have Hr : Hid (R = 1) := by unfold Hid; rw [E.out, if_neg (by simp), if_pos (.inl hlen)]
      have hli2 : ¬ (vl.length : Int) = (vids.length : Int) := by omega
      clear E
      go_enter Tryd.func17, Tryd.ntmps17
      go_wp2
      go_ret
      exact ⟨ret_int (unhide Hr).symm, hX0⟩
    have Hlen := hide hlen
    have hli2 : ((vl.length : Int) != (vids.length : Int)) = false := by simp; omega
    clear hlen hX0
    obtain ⟨w0, hw0⟩ : ∃ w0, w0 = ((w.alloc (.cells #[.slice sb.a sb.len sb.cap] 24)).alloc (.cells #[.string tv.name, .bool tv.enum, .slice tv.fields.a tv.fields.len tv.fields.cap, .slice tv.gone.a tv.gone.len tv.gone.cap, .slice tv.items.a tv.items.len tv.items.cap] 50)).alloc (.cells #[.int .i64 2, .int .i64 vn, .string vs, .slice ia vids.length ic, .slice la vl.length lc] 28) := ⟨_, rfl⟩
    obtain ⟨hx0, hz, r0, r1, r2⟩ := heaps3 hw0
    have HW0 := hide hw0
    clear hw0
    have b0 : w0.cell? ⟨w.heap.size, 0, none⟩ = some (.slice sb.a sb.len sb.cap) := cell_of_row _ _ 0 _ _ _ r0
    obtain ⟨t0, t1, t2, t3, t4, tf⟩ := row5 r1
    obtain ⟨v0, v1, v2, v3, v4, vf⟩ := row5 r2
    clear tf vf
    go_enter Tryd.func17, Tryd.ntmps17
    go_wp2_with fail
    rw [← unhide HW0]
    refine (ofOneKind_any 2 vn vs ⟨ia, vids.length, ic⟩ ⟨la, vl.length, lc⟩ w0 hii hli).mono ?_
    rintro e w1 ⟨rfl, hx1⟩
    have hE1 : Ext w w1 := hx0.trans hx1
    cases hone : oneKindB 2 vn vs vids.length vl.length
    · have Hr : Hid (R = 1) := by unfold Hid; rw [E.out, if_neg (by simp), if_pos (.inr hone)]
      clear E
      go_wp2
      go_ret
      exact ⟨ret_int (unhide Hr).symm, hE1⟩
    have E2 : Hid (R = if firstE P 0 vids.length ≠ 0 then firstE P 0 vids.length else if lacksB t vids = true then 3 else 0) := by
      unfold Hid; rw [E.out, if_neg (by simp), if_neg (by simp [hone]; exact (unhide Hlen))]
    have q3 := hx1.cell v3
    clear E
    go_wp2
    go_loopw [32] (fun i wr => ∃ j : Nat, j ≤ vids.length ∧ i = .int .i64 j ∧ firstE P 0 vids.length = firstE P j (vids.length - j) ∧ Ext w0 wr) (fun i _ => vids.length - (intOf i).toNat)
    case atStart => exact ⟨0, by omega, rfl, by simp, hx1⟩
    case round =>
      obtain ⟨j, hj, rfl, hfe, hxr⟩ := hrel
      have hEr : Ext w wr := hx0.trans hxr
      by_cases hlt : j < vids.length
      · have hlt2 : j < vl.length := by rw [unhide Hlen]; exact hlt
        obtain ⟨ib, io, cs, hia, hr, rfl⟩ := (unhide Hids).2 j vids[j] (by simp [hlt])
        obtain ⟨xb, xo, cs2, hla, hr2, hxv⟩ := (unhide Hl).2 j vl[j] (by simp [hlt2])
        simp only at hia hla
        subst hia hla
        obtain ⟨xi, xl, rfl, hxi, hxl, hxio, hxlo⟩ := hxv.opens
        have ci := hEr.cell (hr 0 _ rfl)
        rw [Nat.mul_one, Nat.add_zero] at ci
        obtain ⟨c0, c1, c2, c3, c4⟩ := range5 (hEr.range hr2)
        have hsx := unhide Hall vl[j] (List.getElem_mem hlt2)
        have HPj : Hid (P j = _) := unhide Hv j hlt hlt2
        have Hxv := hide hxv
        have hp1 : vl[j].s.size ≤ 9223372036854775807 := Nat.le_trans hsx.parts.1 (by decide)
        have hp2 : xi.len ≤ 9223372036854775807 := by rw [hxi.1]; exact Nat.le_trans hsx.parts.2.1 (by decide)
        have hp3 : xl.len ≤ 9223372036854775807 := by rw [hxl.1]; exact Nat.le_trans hsx.parts.2.2 (by decide)
        have hxi1 := hxi.1
        have hxl1 := hxl.1
        have b1 := hxr.cell b0
        obtain ⟨s0, s1, s2, s3, s4⟩ : wr.cell? ⟨w.heap.size + 1, 0, none⟩ = some (.string tv.name) ∧ wr.cell? ⟨w.heap.size + 1, 1, none⟩ = some (.bool tv.enum) ∧ wr.cell? ⟨w.heap.size + 1, 2, none⟩ = some (.slice tv.fields.a tv.fields.len tv.fields.cap) ∧ wr.cell? ⟨w.heap.size + 1, 3, none⟩ = some (.slice tv.gone.a tv.gone.len tv.gone.cap) ∧ wr.cell? ⟨w.heap.size + 1, 4, none⟩ = some (.slice tv.items.a tv.items.len tv.items.cap) := ⟨hxr.cell t0, hxr.cell t1, hxr.cell t2, hxr.cell t3, hxr.cell t4⟩
        have u3 := hxr.cell v3
        have u4 := hxr.cell v4
        generalize vids[j] = id at *
        generalize vl[j] = x at *
        obtain ⟨xia, xin, xic⟩ := xi
        obtain ⟨xla, xln, xlc⟩ := xl
        simp only at hxi1 hxl1 hp2 hp3 c3 c4 Hxv
        subst hxi1 hxl1
        clear hr hr2 hxv hxi hxl
        go_wp2_with fail
        refine (fieldOf_any tv t id _ ((unhide Ht).ext hEr) (Nat.le_trans (unhide Hts).fields (by decide))).mono ?_
        rintro e w2 ⟨rfl, hx2⟩
        have hE2 := hEr.trans hx2
        have hX2 := hxr.trans hx2
        cases hfs : (fieldM t id).isSome
        · have HP3 : Hid (P j = 3) := by unfold Hid; rw [HPj.out, if_pos hfs]
          have Hfe : Hid (firstE P 0 vids.length = 3) := by
            unfold Hid; rw [hfe, firstE_bad (by omega) (by rw [HP3.out]; decide), HP3.out]
          have Hr : Hid (R = 3) := by unfold Hid; rw [unhide E2, Hfe.out]; rfl
          clear E2 Hfe HP3 HPj hfe
          go_wp2
          go_ret
          exact ⟨ret_int (unhide Hr).symm, hE2.alloc _⟩
        have HPk : Hid (P j = if orderN ((fieldM t id).getD FieldM.zero) (vids.take j) ≠ 0 then orderN ((fieldM t id).getD FieldM.zero) (vids.take j)
          else if wrongOneN ts ((fieldM t id).getD FieldM.zero) x.kind x.n x.s x.ids.length x.l.length ≠ 0 then wrongOneN ts ((fieldM t id).getD FieldM.zero) x.kind x.n x.s x.ids.length x.l.length
          else if ((fieldM t id).getD FieldM.zero).kind ≠ 5 then 0
          else wrongM ts k ((findM ts ((fieldM t id).getD FieldM.zero).type).getD TypeM.zero) x) := by
            unfold Hid; rw [HPj.out, if_neg (by simp [hfs])]
        clear HPj
        generalize (fieldM t id).getD FieldM.zero = f at *
        rw [fieldCells]
        have hb2 := (unhide Hb).ext hE2
        have r02 := hX2.heap r0
        have r22 := hX2.heap r2
        have z2 := lt_of_heap r22
        have hx2a : Ext w2 (w2.alloc (.cells #[.int .i64 f.id, .string f.name, .string f.type, .int .i64 f.kind, .int .i64 f.rule] 46)) := (Ext.refl w2).alloc _
        go_wp2_with fail
        obtain ⟨W, hW⟩ : ∃ W, W = w2.alloc (.cells #[.int .i64 f.id, .string f.name, .string f.type, .int .i64 f.kind, .int .i64 f.rule] 46) := ⟨_, rfl⟩
        have hxW : Ext w2 W := by rw [hW]; exact hx2a
        have rW : W.heap[w2.heap.size]? = some (.cells #[.int .i64 f.id, .string f.name, .string f.type, .int .i64 f.kind, .int .i64 f.rule] 46 (0, 0)) := by rw [hW]; exact heap_alloc_new _ _
        rw [← hW]
        clear hW hx2a
        have hXW := hX2.trans hxW
        have hEW := hx0.trans hXW
        obtain ⟨f0, f1, f2, f3, f4, _⟩ := row5 rW
        have d3 := hXW.cell v3
        have d4 := hXW.cell v4
        have dB := hXW.cell b0
        obtain ⟨e0, e1, e2, e3, e4⟩ : W.cell? ⟨xb, xo + j * 5, none⟩ = some (.int .i64 x.kind) ∧ W.cell? ⟨xb, xo + j * 5 + 1, none⟩ = some (.int .i64 x.n) ∧ W.cell? ⟨xb, xo + j * 5 + 2, none⟩ = some (.string x.s) ∧ W.cell? ⟨xb, xo + j * 5 + 3, none⟩ = some (.slice xia x.ids.length xic) ∧ W.cell? ⟨xb, xo + j * 5 + 4, none⟩ = some (.slice xla x.l.length xlc) := by
          have h := hx2.trans hxW
          exact ⟨h.cell c0, h.cell c1, h.cell c2, h.cell c3, h.cell c4⟩
        clear c0 c1 c2 c3 c4 s0 s1 s2 s3 s4 u3 u4 b1 ci q3 hx2 hxW
        have hji : (j : Int) < (vids.length : Int) := by omega
        have hjc : j ≤ ic := by omega
        have hjc2 : (j : Int) ≤ (ic : Int) := by omega
        have hjl : (j : Int) < (vl.length : Int) := by omega
        have hS0 : Ext W W.drew := (Ext.refl W).drew
        have hpre : IntsAt W ⟨some ⟨ib, io, none⟩, j, ic⟩ (vids.take j) := by
          refine ⟨by simp; omega, fun i y hy => ?_⟩
          have hi : i < j := by have := (List.getElem?_eq_some_iff.1 hy).1; simp at this; omega
          rw [List.getElem?_take, if_pos hi] at hy
          obtain ⟨b', o', cs', h1', h2', h3'⟩ := (unhide Hids).2 i y hy
          exact ⟨b', o', cs', h1', hEW.range h2', h3'⟩
        refine wp_region_X (fun w' => Ext W w') (fun _ => false) (by kernel_rfl) ?_
        refine wpAnyX_take (i := 0) (v := .agg #[.int .i64 f.id, .string f.name, .string f.type, .int .i64 f.kind, .int .i64 f.rule]) rfl (by kernel_rfl) (by kernel_rfl) (fun _ _ _ h => h) (.inl ⟨rfl, fun w' hS => by simp [execOp, go_sem, hS.cell f0, hS.cell f1, hS.cell f2, hS.cell f3, hS.cell f4]⟩) (hS0) ?_
        simp only [Act.put, List.getElem_toArray, List.getElem_cons_zero, List.getElem_cons_succ, List.setIfInBounds_toArray, List.set_cons_succ, List.set_cons_zero]
        refine wpAnyX_take (i := 1) (v := .pointer (some ⟨w.heap.size + 1 + 1, 3, none⟩)) rfl (by kernel_rfl) (by kernel_rfl) (fun _ _ _ h => h) (.inl ⟨rfl, fun w' hS => by simp [execOp, go_sem]⟩) (hS0) ?_
        simp only [Act.put, List.getElem_toArray, List.getElem_cons_zero, List.getElem_cons_succ, List.setIfInBounds_toArray, List.set_cons_succ, List.set_cons_zero]
        refine wpAnyX_take (i := 2) (v := .slice (some ⟨ib, io, none⟩) vids.length ic) rfl (by kernel_rfl) (by kernel_rfl) (fun _ _ _ h => h) (.inl ⟨rfl, fun w' hS => by simp [execOp, go_sem, hS.cell d3]⟩) (hS0) ?_
        simp only [Act.put, List.getElem_toArray, List.getElem_cons_zero, List.getElem_cons_succ, List.setIfInBounds_toArray, List.set_cons_succ, List.set_cons_zero]
        refine wpAnyX_take (i := 3) (v := .int .i64 j) rfl (by kernel_rfl) (by kernel_rfl) (fun _ _ _ h => h) (.inl ⟨rfl, fun w' hS => by simp [execOp, go_sem]⟩) (hS0) ?_
        simp only [Act.put, List.getElem_toArray, List.getElem_cons_zero, List.getElem_cons_succ, List.setIfInBounds_toArray, List.set_cons_succ, List.set_cons_zero]
        refine wpAnyX_take (i := 4) (v := .slice (some ⟨ib, io, none⟩) j ic) rfl (by kernel_rfl) (by kernel_rfl) (fun _ _ _ h => h) (.inl ⟨rfl, fun w' hS => by simp [execOp, go_sem, hlt, hji, hic, hjc, hjc2]⟩) (hS0) ?_
        simp only [Act.put, List.getElem_toArray, List.getElem_cons_zero, List.getElem_cons_succ, List.setIfInBounds_toArray, List.set_cons_succ, List.set_cons_zero]
        refine wpAnyX_one (j := 5) rfl (by kernel_rfl) rfl fun K hK => ?_
        go_wp2_with fail
        refine (wrongOrder_any f ⟨some ⟨ib, io, none⟩, j, ic⟩ (vids.take j) _ (hpre.ext hS0) (by simp; omega)).mono ?_
        rintro e w3 ⟨rfl, hx3⟩
        have hS3 : Ext W w3 := hS0.trans hx3
        go_wp2
        refine hK.out _ _ (hS3) ?_
        clear hK K
        refine wpAnyX_one (j := 6) rfl (by kernel_rfl) rfl fun K hK => ?_
        go_wp2
        refine hK.out _ _ (hS3) ?_
        clear hK K
        refine wpAnyX_end [] [] rfl (by intro j i hj; simp at hj) (by kernel_rfl) (by intro i hi; simp at hi) fun K hK => ?_
        go_wp2
        refine hK.out _ _ ?_
        clear hK K
        generalize orderN f (vids.take j) = o at *
        have bad : Hid (∀ e : Int, e ≠ 0 → P j = e → R = e) := fun e he hp => by
          rw [unhide E2, hfe, firstE_bad (by omega) (by rw [hp]; exact he), hp, if_pos he]
        have good : Hid (P j = 0 → firstE P 0 vids.length = firstE P (j + 1) (vids.length - (j + 1))) := fun hp => by
          rw [hfe, firstE_ok (by omega) hp, show vids.length - j - 1 = vids.length - (j + 1) by omega]
        by_cases ho : o = 0
        case neg =>
          have Hr : Hid (R = o) := unhide bad o ho (by rw [HPk.out, if_pos ho])
          have hob : (o != 0) = true := by simpa using ho
          clear E2 HPk hfe bad good
          go_wp2
          go_ret
          exact ⟨ret_int (unhide Hr).symm, hEW.trans hS3⟩
        have HPl : Hid (P j = if wrongOneN ts f x.kind x.n x.s x.ids.length x.l.length ≠ 0 then wrongOneN ts f x.kind x.n x.s x.ids.length x.l.length
          else if f.kind ≠ 5 then 0 else wrongM ts k ((findM ts f.type).getD TypeM.zero) x) := by unfold Hid; rw [HPk.out, if_neg (by simp [ho])]
        have hob : (o != 0) = false := by simp [ho]
        clear HPk ho hpre
        go_wp2_with fail
        have hS4 : Ext W w3.drew := hS3.drew
        refine wp_region_X (fun w' => Ext W w') (fun _ => false) (by kernel_rfl) ?_
        refine wpAnyX_take (i := 0) (v := .agg #[.slice sb.a sb.len sb.cap]) rfl (by kernel_rfl) (by kernel_rfl) (fun _ _ _ h => h) (.inl ⟨rfl, fun w' hS => by simp [execOp, go_sem, hS.cell dB]⟩) (hS4) ?_
        simp only [Act.put, List.getElem_toArray, List.getElem_cons_zero, List.getElem_cons_succ, List.setIfInBounds_toArray, List.set_cons_succ, List.set_cons_zero]
        refine wpAnyX_take (i := 1) (v := .agg #[.int .i64 f.id, .string f.name, .string f.type, .int .i64 f.kind, .int .i64 f.rule]) rfl (by kernel_rfl) (by kernel_rfl) (fun _ _ _ h => h) (.inl ⟨rfl, fun w' hS => by simp [execOp, go_sem, hS.cell f0, hS.cell f1, hS.cell f2, hS.cell f3, hS.cell f4]⟩) (hS4) ?_
        simp only [Act.put, List.getElem_toArray, List.getElem_cons_zero, List.getElem_cons_succ, List.setIfInBounds_toArray, List.set_cons_succ, List.set_cons_zero]
        refine wpAnyX_take (i := 2) (v := .pointer (some ⟨w.heap.size + 1 + 1, 4, none⟩)) rfl (by kernel_rfl) (by kernel_rfl) (fun _ _ _ h => h) (.inl ⟨rfl, fun w' hS => by simp [execOp, go_sem]⟩) (hS4) ?_
        simp only [Act.put, List.getElem_toArray, List.getElem_cons_zero, List.getElem_cons_succ, List.setIfInBounds_toArray, List.set_cons_succ, List.set_cons_zero]
        refine wpAnyX_take (i := 3) (v := .slice (some ⟨xb, xo, none⟩) vl.length lc) rfl (by kernel_rfl) (by kernel_rfl) (fun _ _ _ h => h) (.inl ⟨rfl, fun w' hS => by simp [execOp, go_sem, hS.cell d4]⟩) (hS4) ?_
        simp only [Act.put, List.getElem_toArray, List.getElem_cons_zero, List.getElem_cons_succ, List.setIfInBounds_toArray, List.set_cons_succ, List.set_cons_zero]
        refine wpAnyX_take (i := 4) (v := .int .i64 j) rfl (by kernel_rfl) (by kernel_rfl) (fun _ _ _ h => h) (.inl ⟨rfl, fun w' hS => by simp [execOp, go_sem]⟩) (hS4) ?_
        simp only [Act.put, List.getElem_toArray, List.getElem_cons_zero, List.getElem_cons_succ, List.setIfInBounds_toArray, List.set_cons_succ, List.set_cons_zero]
        refine wpAnyX_take (i := 5) (v := .pointer (some ⟨xb, xo + j * 5, none⟩)) rfl (by kernel_rfl) (by kernel_rfl) (fun _ _ _ h => h) (.inl ⟨rfl, fun w' hS => by simp [execOp, go_sem, hjl, hlt2]⟩) (hS4) ?_
        simp only [Act.put, List.getElem_toArray, List.getElem_cons_zero, List.getElem_cons_succ, List.setIfInBounds_toArray, List.set_cons_succ, List.set_cons_zero]
        refine wpAnyX_take (i := 6) (v := .agg #[.int .i64 x.kind, .int .i64 x.n, .string x.s, .slice xia x.ids.length xic, .slice xla x.l.length xlc]) rfl (by kernel_rfl) (by kernel_rfl) (fun _ _ _ h => h) (.inl ⟨rfl, fun w' hS => by simp [execOp, go_sem, hS.cell e0, hS.cell e1, hS.cell e2, hS.cell e3, hS.cell e4]⟩) (hS4) ?_
        simp only [Act.put, List.getElem_toArray, List.getElem_cons_zero, List.getElem_cons_succ, List.setIfInBounds_toArray, List.set_cons_succ, List.set_cons_zero]
        refine wpAnyX_one (j := 7) rfl (by kernel_rfl) rfl fun K hK => ?_
        go_wp2_with fail
        refine (wrongOne_any sb ts f x.kind x.n x.s ⟨xia, x.ids.length, xic⟩ ⟨xla, x.l.length, xlc⟩ w3.drew ((unhide Hb).ext (hEW.trans hS4)) (unhide Hn) hp1 hp2 hp3).mono ?_
        rintro e w4 ⟨rfl, hx4⟩
        have hS5 : Ext W w4 := hS4.trans hx4
        go_wp2
        refine hK.out _ _ (hS5) ?_
        clear hK K
        refine wpAnyX_one (j := 8) rfl (by kernel_rfl) rfl fun K hK => ?_
        go_wp2
        refine hK.out _ _ (hS5) ?_
        clear hK K
        refine wpAnyX_end [] [] rfl (by intro j i hj; simp at hj) (by kernel_rfl) (by intro i hi; simp at hi) fun K hK => ?_
        go_wp2
        refine hK.out _ _ ?_
        clear hK K
        generalize wrongOneN ts f x.kind x.n x.s x.ids.length x.l.length = o2 at *
        by_cases ho : o2 = 0
        case neg =>
          have Hr : Hid (R = o2) := unhide bad o2 ho (by rw [HPl.out, if_pos ho])
          have hob2 : (o2 != 0) = true := by simpa using ho
          clear E2 HPl hfe bad good
          go_wp2
          go_ret
          exact ⟨ret_int (unhide Hr).symm, hEW.trans hS5⟩
        have HPm : Hid (P j = if f.kind ≠ 5 then 0 else wrongM ts k ((findM ts f.type).getD TypeM.zero) x) := by unfold Hid; rw [HPl.out, if_neg (by simp [ho])]
        have hob2 : (o2 != 0) = false := by simp [ho]
        clear HPl ho
        have k3 := hS5.cell f3
        by_cases hk5 : f.kind = 5
        case neg =>
          have Hg := unhide good (by rw [HPm.out, if_pos hk5])
          have HG := hide Hg
          have hkb : (f.kind != 5) = true := by simpa using hk5
          clear E2 HPm hfe bad good Hg hk5
          go_wp2
          exact ⟨⟨j + 1, by omega, by go_num, unhide HG, hXW.trans hS5⟩, by simp [intOf]; omega⟩
        have HPn : Hid (P j = wrongM ts k ((findM ts f.type).getD TypeM.zero) x) := by unfold Hid; rw [HPm.out, if_neg (by simp [hk5])]
        have hkb : (f.kind != 5) = false := by simp [hk5]
        clear HPm hk5
        go_wp2_with fail
        have hS6 : Ext W w4.drew := hS5.drew
        refine wp_region_X (fun w' => Ext W w') (fun _ => false) (by kernel_rfl) ?_
        refine wpAnyX_take (i := 0) (v := .agg #[.slice sb.a sb.len sb.cap]) rfl (by kernel_rfl) (by kernel_rfl) (fun _ _ _ h => h) (.inl ⟨rfl, fun w' hS => by simp [execOp, go_sem, hS.cell dB]⟩) (hS6) ?_
        simp only [Act.put, List.getElem_toArray, List.getElem_cons_zero, List.getElem_cons_succ, List.setIfInBounds_toArray, List.set_cons_succ, List.set_cons_zero]
        refine wpAnyX_take (i := 1) (v := .agg #[.slice sb.a sb.len sb.cap]) rfl (by kernel_rfl) (by kernel_rfl) (fun _ _ _ h => h) (.inl ⟨rfl, fun w' hS => by simp [execOp, go_sem, hS.cell dB]⟩) (hS6) ?_
        simp only [Act.put, List.getElem_toArray, List.getElem_cons_zero, List.getElem_cons_succ, List.setIfInBounds_toArray, List.set_cons_succ, List.set_cons_zero]
        refine wpAnyX_take (i := 2) (v := .agg #[.int .i64 f.id, .string f.name, .string f.type, .int .i64 f.kind, .int .i64 f.rule]) rfl (by kernel_rfl) (by kernel_rfl) (fun _ _ _ h => h) (.inl ⟨rfl, fun w' hS => by simp [execOp, go_sem, hS.cell f0, hS.cell f1, hS.cell f2, hS.cell f3, hS.cell f4]⟩) (hS6) ?_
        simp only [Act.put, List.getElem_toArray, List.getElem_cons_zero, List.getElem_cons_succ, List.setIfInBounds_toArray, List.set_cons_succ, List.set_cons_zero]
        refine wpAnyX_take (i := 4) (v := .pointer (some ⟨w.heap.size + 1 + 1, 4, none⟩)) rfl (by kernel_rfl) (by kernel_rfl) (fun _ _ _ h => h) (.inl ⟨rfl, fun w' hS => by simp [execOp, go_sem]⟩) (hS6) ?_
        simp only [Act.put, List.getElem_toArray, List.getElem_cons_zero, List.getElem_cons_succ, List.setIfInBounds_toArray, List.set_cons_succ, List.set_cons_zero]
        refine wpAnyX_take (i := 5) (v := .slice (some ⟨xb, xo, none⟩) vl.length lc) rfl (by kernel_rfl) (by kernel_rfl) (fun _ _ _ h => h) (.inl ⟨rfl, fun w' hS => by simp [execOp, go_sem, hS.cell d4]⟩) (hS6) ?_
        simp only [Act.put, List.getElem_toArray, List.getElem_cons_zero, List.getElem_cons_succ, List.setIfInBounds_toArray, List.set_cons_succ, List.set_cons_zero]
        refine wpAnyX_take (i := 6) (v := .int .i64 j) rfl (by kernel_rfl) (by kernel_rfl) (fun _ _ _ h => h) (.inl ⟨rfl, fun w' hS => by simp [execOp, go_sem]⟩) (hS6) ?_
        simp only [Act.put, List.getElem_toArray, List.getElem_cons_zero, List.getElem_cons_succ, List.setIfInBounds_toArray, List.set_cons_succ, List.set_cons_zero]
        refine wpAnyX_take (i := 7) (v := .pointer (some ⟨xb, xo + j * 5, none⟩)) rfl (by kernel_rfl) (by kernel_rfl) (fun _ _ _ h => h) (.inl ⟨rfl, fun w' hS => by simp [execOp, go_sem, hjl, hlt2]⟩) (hS6) ?_
        simp only [Act.put, List.getElem_toArray, List.getElem_cons_zero, List.getElem_cons_succ, List.setIfInBounds_toArray, List.set_cons_succ, List.set_cons_zero]
        refine wpAnyX_take (i := 8) (v := .agg #[.int .i64 x.kind, .int .i64 x.n, .string x.s, .slice xia x.ids.length xic, .slice xla x.l.length xlc]) rfl (by kernel_rfl) (by kernel_rfl) (fun _ _ _ h => h) (.inl ⟨rfl, fun w' hS => by simp [execOp, go_sem, hS.cell e0, hS.cell e1, hS.cell e2, hS.cell e3, hS.cell e4]⟩) (hS6) ?_
        simp only [Act.put, List.getElem_toArray, List.getElem_cons_zero, List.getElem_cons_succ, List.setIfInBounds_toArray, List.set_cons_succ, List.set_cons_zero]
        refine wpAnyX_one (j := 3) rfl (by kernel_rfl) rfl fun K hK => ?_
        go_wp2_with fail
        refine (typeOf_any sb ts f _ ((unhide Hb).ext (hEW.trans hS6)) (unhide Hn)).mono ?_
        rintro e w5 ⟨tv5, rfl, htv5, hx5, _⟩
        have hS7 : Ext W w5 := hS6.trans hx5
        have Htv5 := hide htv5
        clear htv5
        go_wp2
        refine hK.out _ _ (hS7) ?_
        clear hK K
        refine wpAnyX_one (j := 9) rfl (by kernel_rfl) rfl fun K hK => ?_
        go_wp2_with fail
        refine (ih tv5 _ x ⟨xia, x.ids.length, xic⟩ ⟨xla, x.l.length, xlc⟩ _ ((unhide Hb).ext (hEW.trans hS7)) (unhide Htv5) (find_small (unhide Hn) f.type) hsx ((unhide Hxv).ext (hEW.trans hS7))).mono ?_
        rintro e w6 ⟨rfl, hx6⟩
        have hS8 : Ext W w6 := hS7.trans hx6
        go_wp2
        refine hK.out _ _ (hS8) ?_
        clear hK K
        refine wpAnyX_one (j := 10) rfl (by kernel_rfl) rfl fun K hK => ?_
        go_wp2
        refine hK.out _ _ (hS8) ?_
        clear hK K
        refine wpAnyX_end [] [] rfl (by intro j i hj; simp at hj) (by kernel_rfl) (by intro i hi; simp at hi) fun K hK => ?_
        go_wp2
        refine hK.out _ _ ?_
        clear hK K
        generalize wrongM ts k ((findM ts f.type).getD TypeM.zero) x = o3 at *
        by_cases ho : o3 = 0
        case neg =>
          have Hr : Hid (R = o3) := unhide bad o3 ho HPn.out
          have hob3 : (o3 != 0) = true := by simpa using ho
          clear E2 HPn hfe bad good
          go_wp2
          go_ret
          exact ⟨ret_int (unhide Hr).symm, hEW.trans hS8⟩
        have Hg := unhide good (by rw [HPn.out, ho])
        have HG := hide Hg
        have hob3 : (o3 != 0) = false := by simp [ho]
        clear E2 HPn hfe bad good Hg ho
        go_wp2
        exact ⟨⟨j + 1, by omega, by go_num, unhide HG, hXW.trans hS8⟩, by simp [intOf]; omega⟩
      · have hz0 : firstE P 0 vids.length = 0 := by rw [hfe, show vids.length - j = 0 by omega]; rfl
        have E3 : Hid (R = if lacksB t vids = true then 3 else 0) := by unfold Hid; rw [unhide E2, if_neg (by simp [hz0])]
        clear E2 hz0 hfe
        obtain ⟨s0, s1, s2, s3, s4⟩ : wr.cell? ⟨w.heap.size + 1, 0, none⟩ = some (.string tv.name) ∧ wr.cell? ⟨w.heap.size + 1, 1, none⟩ = some (.bool tv.enum) ∧ wr.cell? ⟨w.heap.size + 1, 2, none⟩ = some (.slice tv.fields.a tv.fields.len tv.fields.cap) ∧ wr.cell? ⟨w.heap.size + 1, 3, none⟩ = some (.slice tv.gone.a tv.gone.len tv.gone.cap) ∧ wr.cell? ⟨w.heap.size + 1, 4, none⟩ = some (.slice tv.items.a tv.items.len tv.items.cap) := ⟨hxr.cell t0, hxr.cell t1, hxr.cell t2, hxr.cell t3, hxr.cell t4⟩
        have u3 := hxr.cell v3
        go_wp2_with fail
        refine (lacksOne_any tv t ⟨ia, vids.length, ic⟩ vids _ ((unhide Ht).ext hEr) ((unhide Hids).ext hEr) (unhide Hts).fields hin).mono ?_
        rintro e w2 ⟨rfl, hx2⟩
        cases hlk : lacksB t vids
        · have Hr : Hid (R = 0) := by unfold Hid; rw [unhide E3, hlk]; rfl
          clear E3
          go_wp2
          go_ret
          exact ⟨ret_int (unhide Hr).symm, hEr.trans hx2⟩
        · have Hr : Hid (R = 3) := by unfold Hid; rw [unhide E3, hlk]; rfl
          clear E3
          go_wp2
          go_ret
          exact ⟨ret_int (unhide Hr).symm, hEr.trans hx2⟩
end Go.Proofs.YtidcagcdaanijaaDoor

namespace Go.Proofs.YtidcagcdaanijaaDoor
set_option linter.unusedSimpArgs false
set_option linter.unusedVariables false
open Go.RowKit

def typedM (ts : BookM) (name : ByteArray) (K : Nat) (v : ValueM) : Int := if msgE ts name ≠ 0 then msgE ts name else if largeB K v = true then 7 else wrongM ts K (msgT ts name) v
theorem msg_good {ts : BookM} {name : ByteArray} (h : msgE ts name = 0) : goodM ts = 0 ∧ findM ts name = some (msgT ts name) ∧ (msgT ts name).enum = false := by
  by_cases hg : goodM ts = 0
  · cases hf : findM ts name with
    | none => rw [(msgE_none hg (by rw [hf]; exact .inl rfl)).1] at h; cases h
    | some t =>
      cases he : t.enum
      · have := (msgE_ok (name := name) hg (by rw [hf]; rfl) (by rw [hf]; exact he)).2
        rw [hf] at this
        refine ⟨hg, ?_, ?_⟩
        · rw [this]; rfl
        · rw [this]; exact he
      · rw [(msgE_none hg (by rw [hf]; exact .inr he)).1] at h; cases h
  · rw [(msgE_bad hg).1] at h; cases h
theorem msg_small {ts : BookM} {name : ByteArray} (h : msgE ts name = 0) : ts.Small ∧ (msgT ts name).Small := by
  obtain ⟨h1, h2, _⟩ := msg_good h
  have := good_small h1
  exact ⟨this, this.2 _ (findM_mem h2)⟩

set_option maxHeartbeats 3200000 in
theorem typed_any (sb : SV) (ts : BookM) (name : ByteArray) (K : Nat) (v : ValueM) (ids l : SV) (w : World) (hb : BookAt w sb ts) (hw : WordsAt w) (hn : ts.Fits) (hsv : SmallV K v) (hc : cntM K v ≤ 1048576)
    (hv : ValueAt K w [.int .i64 v.kind, .int .i64 v.n, .string v.s, .slice ids.a ids.len ids.cap, .slice l.a l.len l.cap] v) :
    Calls Tryd.prog 8 #[.agg #[.slice sb.a sb.len sb.cap], .string name, .agg #[.int .i64 v.kind, .int .i64 v.n, .string v.s, .slice ids.a ids.len ids.cap, .slice l.a l.len l.cap]] w fun e w' => e = .returned (.int .i64 (typedM ts name K v)) ∧ Ext w w' := by
  obtain ⟨w0, hw0⟩ : ∃ w0, w0 = (w.alloc (.cells #[.slice sb.a sb.len sb.cap] 24)).alloc (.cells #[.int .i64 v.kind, .int .i64 v.n, .string v.s, .slice ids.a ids.len ids.cap, .slice l.a l.len l.cap] 28) := ⟨_, rfl⟩
  obtain ⟨hx0, hz, r0, r1⟩ := heaps2 hw0
  have HW0 := hide hw0
  clear hw0
  have b0 : w0.cell? ⟨w.heap.size, 0, none⟩ = some (.slice sb.a sb.len sb.cap) := cell_of_row _ _ 0 _ _ _ r0
  obtain ⟨v0, v1, v2, v3, v4, _⟩ := row5 r1
  obtain ⟨R, hR⟩ : ∃ R, R = typedM ts name K v := ⟨_, rfl⟩
  rw [← hR]
  have E : Hid (R = if msgE ts name ≠ 0 then msgE ts name else if largeB K v = true then 7 else wrongM ts K (msgT ts name) v) := hR
  have Hb := hide (hb.ext hx0)
  have Hw := hide (hw.ext hx0)
  have Hv := hide (hv.ext hx0)
  clear hR hb hw hv
  go_enter Tryd.func8, Tryd.ntmps8
  go_wp2_with fail
  rw [← unhide HW0]
  refine (messageOf_any sb ts name w0 (unhide Hb) (unhide Hw) hn).mono ?_
  rintro e w1 ⟨tv, rfl, htv, hx1, _⟩
  have hE1 := hx0.trans hx1
  have Htv := hide htv
  have HS := hide (@msg_small ts name)
  clear htv
  by_cases hm : msgE ts name = 0
  case neg =>
    have Hr : Hid (R = msgE ts name) := by unfold Hid; rw [E.out, if_pos hm]
    have hmb : (msgE ts name != 0) = true := by simpa using hm
    clear E HS
    generalize msgE ts name = m at *
    go_wp2
    go_ret
    exact ⟨ret_int (unhide Hr).symm, hE1.alloc _⟩
  have E2 : Hid (R = if largeB K v = true then 7 else wrongM ts K (msgT ts name) v) := by unfold Hid; rw [E.out, if_neg (by simp [hm])]
  obtain ⟨hsm, htm⟩ := unhide HS hm
  have hmb : (msgE ts name != 0) = false := by simp [hm]
  clear E HS hm
  generalize msgE ts name = m at *
  generalize msgT ts name = T at *
  have d0 := hx1.cell b0
  obtain ⟨u0, u1, u2, u3, u4⟩ : w1.cell? ⟨w.heap.size + 1, 0, none⟩ = some (.int .i64 v.kind) ∧ w1.cell? ⟨w.heap.size + 1, 1, none⟩ = some (.int .i64 v.n) ∧ w1.cell? ⟨w.heap.size + 1, 2, none⟩ = some (.string v.s) ∧ w1.cell? ⟨w.heap.size + 1, 3, none⟩ = some (.slice ids.a ids.len ids.cap) ∧ w1.cell? ⟨w.heap.size + 1, 4, none⟩ = some (.slice l.a l.len l.cap) := ⟨hx1.cell v0, hx1.cell v1, hx1.cell v2, hx1.cell v3, hx1.cell v4⟩
  have z1 := lt_of_heap (hx1.heap r1)
  have hx2 : Ext w1 (w1.alloc (.cells #[.string tv.name, .bool tv.enum, .slice tv.fields.a tv.fields.len tv.fields.cap, .slice tv.gone.a tv.gone.len tv.gone.cap, .slice tv.items.a tv.items.len tv.items.cap] 50)) := (Ext.refl w1).alloc _
  have r2 : (w1.alloc (.cells #[.string tv.name, .bool tv.enum, .slice tv.fields.a tv.fields.len tv.fields.cap, .slice tv.gone.a tv.gone.len tv.gone.cap, .slice tv.items.a tv.items.len tv.items.cap] 50)).heap[w1.heap.size]? = some (.cells #[.string tv.name, .bool tv.enum, .slice tv.fields.a tv.fields.len tv.fields.cap, .slice tv.gone.a tv.gone.len tv.gone.cap, .slice tv.items.a tv.items.len tv.items.cap] 50 (0, 0)) := heap_alloc_new _ _
  go_wp2_with fail
  refine (tooLarge_any K v ids l _ ((unhide Hv).ext (hx1.trans hx2)) hc).mono ?_
  rintro e w3 ⟨rfl, hx3⟩
  have hE3 := (hE1.trans hx2).trans hx3
  cases hl : largeB K v
  · have Hr : Hid (R = wrongM ts K T v) := by unfold Hid; rw [unhide E2, hl]; rfl
    have h13 := hx2.trans hx3
    have d0 := h13.cell d0
    obtain ⟨u0, u1, u2, u3, u4⟩ : w3.cell? ⟨w.heap.size + 1, 0, none⟩ = some (.int .i64 v.kind) ∧ w3.cell? ⟨w.heap.size + 1, 1, none⟩ = some (.int .i64 v.n) ∧ w3.cell? ⟨w.heap.size + 1, 2, none⟩ = some (.string v.s) ∧ w3.cell? ⟨w.heap.size + 1, 3, none⟩ = some (.slice ids.a ids.len ids.cap) ∧ w3.cell? ⟨w.heap.size + 1, 4, none⟩ = some (.slice l.a l.len l.cap) := ⟨h13.cell u0, h13.cell u1, h13.cell u2, h13.cell u3, h13.cell u4⟩
    obtain ⟨t0, t1, t2, t3, t4, _⟩ := row5 (hx3.heap r2)
    clear E2
    go_wp2_with fail
    refine (wrongMessage_any sb ts hsm K tv T v ids l w3 ((unhide Hb).ext (hx1.trans h13)) ((unhide Htv).ext h13) htm hsv ((unhide Hv).ext (hx1.trans h13))).mono ?_
    rintro e w4 ⟨rfl, hx4⟩
    rw [← unhide Hr]
    go_wp2
    go_ret
    exact ⟨rfl, hE3.trans hx4⟩
  · have Hr : Hid (R = 7) := by unfold Hid; rw [unhide E2, hl]; rfl
    clear E2
    go_wp2
    go_ret
    exact ⟨ret_int (unhide Hr).symm, hE3⟩
end Go.Proofs.YtidcagcdaanijaaDoor

