import Derived.Test.YtmdpdgldmedebaaGreatDoorM9
import Derived.WalkSmall
namespace Go.Proofs.YtmdpdgldmedebaaGreatDoor
set_option linter.unusedSimpArgs false
set_option linter.unusedVariables false
set_option linter.unusedSimpArgs false
set_option linter.unusedVariables false
open Go.RowKit

/-- What stands in a value, and how deep it stands. -/
structure BrM where
  sv : SV
  l : List ValueM
  d : Nat
abbrev BrM.cells (b : BrM) : List Value := [.slice b.sv.a b.sv.len b.sv.cap, .int .i64 b.d]
structure BrOk (K : Nat) (w : World) (b : BrM) : Prop where
  at_ : SliceAt 5 (ValueAt K) w b.sv b.l
  fits : ∀ x ∈ b.l, Fits K x
  one : 1 ≤ b.d
  low : b.d ≤ 1048577
def stC (k : Nat) : List BrM → Nat
  | [] => 0
  | b :: r => sumL (cntM k) b.l + stC k r
def stD (k : Nat) : List BrM → Nat
  | [] => 0
  | b :: r => max (bD k b.l b.d) (stD k r)
theorem stC_snoc (k : Nat) (b : BrM) : ∀ r : List BrM, stC k (r ++ [b]) = stC k r + sumL (cntM k) b.l
  | [] => by simp [stC]
  | a :: r => by rw [List.cons_append, stC, stC_snoc k b r, stC]; omega
theorem stD_snoc (k : Nat) (b : BrM) : ∀ r : List BrM, stD k (r ++ [b]) = max (stD k r) (bD k b.l b.d)
  | [] => by simp [stD]
  | a :: r => by rw [List.cons_append, stD, stD_snoc k b r, stD]; omega
theorem cnt_pos {k : Nat} {v : ValueM} : 1 ≤ cntM k v := by cases k <;> simp [cntM]
theorem st_len {k : Nat} : ∀ {st : List BrM}, (∀ b ∈ st, 0 < b.l.length) → st.length ≤ stC k st
  | [], _ => Nat.zero_le _
  | b :: r, h => by
    have h1 := st_len (k := k) (st := r) fun x hx => h x (by simp [hx])
    have h2 := h b (by simp)
    have h3 : 1 ≤ sumL (cntM k) b.l := by
      obtain ⟨x, hx⟩ : ∃ x, x ∈ b.l := List.exists_mem_of_length_pos h2
      exact Nat.le_trans cnt_pos (sumL_mem (f := cntM k) hx)
    rw [stC, List.length_cons]; omega
theorem own_some {w : World} {base : Nat} {e : TypeId} {size n : Nat} {a : Option Addr} {c : Nat} {xs : List Value} (h : w.ownsRow base e size (.slice a n c) n xs) (hn : 0 < n) : ∃ g, a = some ⟨g, 0, none⟩ := by
  rcases h.2 with ⟨e, h0⟩ | ⟨g, cap, cur, e, _⟩
  · omega
  · simp only [Value.slice.injEq] at e; exact ⟨g, e.1⟩
def lenOf : Value → Nat | .slice _ n _ => n | _ => 0
theorem info80 : (Tryz.prog.info? 77).map (fun i => (i.zero, i.size, i.bytes)) = some (some (.agg #[.slice none 0 0, .int .i64 0]), 2, 32) := by kernel_rfl
theorem one_br (b : BrM) : ∀ u ∈ b.cells, u.oneCell' = true := by intro u hu; simp at hu; rcases hu with rfl | rfl <;> rfl
theorem br_cells (l : List BrM) : (l.flatMap BrM.cells).length = l.length * 2 := flatMap_len (k := 2) (enc := BrM.cells) (fun _ => rfl) l
theorem row2 {w : World} {g : Nat} {t : TypeId} {c0 c1 : Value} (hb : w.heap[g]? = some (.cells #[c0, c1] t (0, 0))) : w.cell? ⟨g, 0, none⟩ = some c0 ∧ w.cell? ⟨g, 1, none⟩ = some c1 ∧ ∀ j, w.frozen? ⟨g, j, none⟩ = false :=
  ⟨cell_of_row w g 0 _ t _ hb, cell_of_row w g 1 _ t _ hb, fun j => frozen_of_row w g j _ t hb⟩
theorem range_of_new2 (w : World) (u0 u1 : Value) (t : TypeId) {g : Nat} (hg : g = w.heap.size) : (w.alloc (.cells #[u0, u1] t)).rangeAt g 0 [u0, u1] := by
  subst hg
  obtain ⟨h0, h1, _⟩ := row2 (heap_alloc_new w (.cells #[u0, u1] t))
  intro j v hv
  match j, hv with
  | 0, hv => cases hv; exact h0
  | 1, hv => cases hv; exact h1

theorem own_off {w' : World} {A base n : Nat} {v' : Value} {xs : List Value} {a0 a1 u0 u1 : Value} (hA : w'.heap[A]? = some (.cells #[a0, a1] 77 (0, 0))) (ho : w'.ownsRow base 77 2 v' (n + 1) (xs ++ [u0, u1])) (hl : xs.length = n * 2) (hne : u1 ≠ a1) : v'.ownBlock ≠ some A := by
  intro e
  rcases ho.2 with ⟨_, h0⟩ | ⟨g, cap, cur, rfl, _, hg, hc, _, hs, ht⟩
  · omega
  · simp only [Value.ownBlock, Option.some.injEq] at e
    subst e
    rw [hA] at hg
    simp only [Option.some.injEq, Obj.cells.injEq] at hg
    obtain ⟨rfl, _⟩ := hg
    have hs' : 2 = cap * 2 := hs
    have hn : n = 0 := by omega
    subst hn
    have hx : xs = [] := List.length_eq_zero_iff.1 (by omega)
    subst hx
    simp at ht
    exact hne ht.2.symm
theorem dep_cnt : ∀ {k : Nat} {v : ValueM}, depM k v ≤ cntM k v
  | 0, _ => Nat.le_refl _
  | k + 1, v => by
    show 1 + maxL (depM k) v.l ≤ 1 + sumL (cntM k) v.l
    have : maxL (depM k) v.l ≤ sumL (cntM k) v.l := maxL_le fun x hx => Nat.le_trans dep_cnt (sumL_mem (f := cntM k) hx)
    omega

/-- What Size's loop says: never too much, and all of it where both are within their bounds. -/
structure SizeIs (K : Nat) (v : ValueM) (mD mC : Int) (d c : Nat) : Prop where
  dep : d ≤ depM K v
  cnt : c ≤ cntM K v
  all : (d : Int) ≤ mD → (c : Int) ≤ mC → d = depM K v ∧ c = cntM K v
  one : 1 ≤ d

set_option maxHeartbeats 6400000 in
set_option maxRecDepth 10000 in
theorem sizeWithin_any (K : Nat) (v : ValueM) (ids l : SV) (mD mC : Int) (w : World) (hv : ValueAt K w [.int .i64 v.kind, .int .i64 v.n, .string v.s, .slice ids.a ids.len ids.cap, .slice l.a l.len l.cap] v) (hb : cntM K v ≤ 1048576) :
    Calls Tryz.prog 32 #[.agg #[.int .i64 v.kind, .int .i64 v.n, .string v.s, .slice ids.a ids.len ids.cap, .slice l.a l.len l.cap], .int .i64 mD, .int .i64 mC] w fun e w' => ∃ d c : Nat, e = .returned (.tuple #[.int .i64 d, .int .i64 c]) ∧ SizeIs K v mD mC d c ∧ Ext w w' := by
  obtain ⟨ids', l', he, _, hl, _, hok⟩ := hv.opens
  simp only [List.cons.injEq, Value.slice.injEq, and_true, true_and] at he
  obtain ⟨⟨i1, i2, i3⟩, l1, l2, l3⟩ := he
  obtain rfl : l = l' := by cases l; cases l'; simp_all
  have hfit := hv.fits
  have hct := cnt_step hfit
  have hdt := dep_step hfit
  have hfi := hfit.inner
  clear hv i1 i2 i3 l1 l2 l3
  go_enter Tryz.func32, Tryz.ntmps32
  go_wp2
  have hx0 : Ext w ((w.alloc (.cells #[.int .i64 v.kind, .int .i64 v.n, .string v.s, .slice ids.a ids.len ids.cap, .slice l.a l.len l.cap] 28)).alloc (.cells #[.slice l.a l.len l.cap, .int .i64 2] 77)) := ((Ext.refl w).alloc _).alloc _
  have ho0 : ((w.alloc (.cells #[.int .i64 v.kind, .int .i64 v.n, .string v.s, .slice ids.a ids.len ids.cap, .slice l.a l.len l.cap] 28)).alloc (.cells #[.slice l.a l.len l.cap, .int .i64 2] 77)).ownsRow (w.heap.size + 1) 77 2 (.slice (some ⟨w.heap.size + 1, 0, none⟩) 1 1) 1 [.slice l.a l.len l.cap, .int .i64 2] := by
    have := World.ownsRow_lit (base := w.heap.size + 1) (e := 77) (size := 2) (w.alloc (.cells #[.int .i64 v.kind, .int .i64 v.n, .string v.s, .slice ids.a ids.len ids.cap, .slice l.a l.len l.cap] 28)) #[.slice l.a l.len l.cap, .int .i64 2] 1 (by simp) (by unfold maxLen; decide) rfl
    simpa using this
  have hTd : depM K v ≤ 1048576 := Nat.le_trans dep_cnt hb
  obtain ⟨T, hT⟩ : ∃ T, T = cntM K v := ⟨_, rfl⟩
  obtain ⟨D, hD⟩ : ∃ D, D = depM K v := ⟨_, rfl⟩
  rw [← hT] at hct hb
  rw [← hD] at hdt hTd
  have HT := hide hT
  have HD := hide hD
  clear hT hD
  go_loopw [8, 9, 10] (fun vd vc vt wr => ∃ (d c : Nat) (st : List BrM), vd = .int .i64 d ∧ vc = .int .i64 c ∧ wr.ownsRow (w.heap.size + 1) 77 2 vt st.length (st.flatMap BrM.cells) ∧ (∀ b ∈ st, BrOk K w b) ∧ max d (stD K st) = D ∧ c + stC K st = T ∧ 1 ≤ d ∧ (∀ b ∈ st, 0 < b.l.length ∨ st.length ≤ 1) ∧ Ext w wr) (fun _ vc vt _ => 2 * (T - (intOf vc).toNat) + lenOf vt)
  case atStart =>
    refine ⟨1, 1, [⟨l, v.l, 2⟩], rfl, rfl, ho0, fun b hb' => ?_, ?_, ?_, by omega, fun b _ => .inr (by simp), hx0⟩
    · obtain rfl : b = ⟨l, v.l, 2⟩ := by simpa using hb'
      exact ⟨hl, hfi, by simp, by simp⟩
    · simp only [stD]
      rw [hdt]
      cases hvl : v.l with
      | nil => rw [bD_nil]; simp [maxL]
      | cons y t => rw [bD_in K 1 (y :: t) (by simp)]; omega
    · simp only [stC]; omega
  case round =>
    obtain ⟨d, c, st, rfl, rfl, hown, hbr, hDD, hCC, h1, hne, hx⟩ := hrel
    obtain ⟨ta, tc, rfl⟩ := owns_slice hown
    have hd : d ≤ D := by omega
    have hc : c ≤ T := by omega
    rcases List.eq_nil_or_concat st with rfl | ⟨st0, b, hst⟩
    · go_wp2
      refine bodyPost_ret (v := .tuple #[.int .i64 d, .int .i64 c]) (by simp [results, Tryz.results32, go_sem]) rfl ?_
      refine ⟨d, c, rfl, ⟨by rw [← unhide HD]; exact hd, by rw [← unhide HT]; exact hc, fun _ _ => ?_, h1⟩, hx⟩
      rw [← unhide HD, ← unhide HT]
      simp only [stD, stC] at hDD hCC
      exact ⟨by omega, by omega⟩
    rw [List.concat_eq_append] at hst
    subst hst
    by_cases hmd : (d : Int) ≤ mD
    case neg =>
      go_wp2
      refine bodyPost_ret (v := .tuple #[.int .i64 d, .int .i64 c]) (by simp [results, Tryz.results32, go_sem]) rfl ?_
      exact ⟨d, c, rfl, ⟨by rw [← unhide HD]; exact hd, by rw [← unhide HT]; exact hc, fun h _ => by omega, h1⟩, hx⟩
    by_cases hmc : (c : Int) ≤ mC
    case neg =>
      go_wp2
      refine bodyPost_ret (v := .tuple #[.int .i64 d, .int .i64 c]) (by simp [results, Tryz.results32, go_sem]) rfl ?_
      exact ⟨d, c, rfl, ⟨by rw [← unhide HD]; exact hd, by rw [← unhide HT]; exact hc, fun _ h => by omega, h1⟩, hx⟩
    have hln : (st0 ++ [b]).length = st0.length + 1 := by simp
    rw [hln] at hown ⊢
    rw [List.flatMap_append, show [b].flatMap BrM.cells = b.cells by simp] at hown
    rw [stC_snoc] at hCC
    rw [stD_snoc] at hDD
    have hbo := hbr b (by simp)
    have hbr0 : ∀ b ∈ st0, BrOk K w b := fun x hx' => hbr x (by simp [hx'])
    obtain ⟨g, rfl⟩ := own_some hown (by omega)
    have hpop := ownsRow_pop (br_cells st0) hown
    have q0 : wr.cell? ⟨g, st0.length * 2, none⟩ = some (.slice b.sv.a b.sv.len b.sv.cap) := by
      rw [hown.cellAt _ (by omega), List.getElem?_append_right (by rw [br_cells]; omega), br_cells]; simp
    have q1 : wr.cell? ⟨g, st0.length * 2 + 1, none⟩ = some (.int .i64 b.d) := by
      rw [hown.cellAt _ (by omega), List.getElem?_append_right (by rw [br_cells]; omega), br_cells]; simp
    have hcap : st0.length + 1 ≤ tc := by
      rcases hown.2 with ⟨h', _⟩ | ⟨_, _, _, h', _, _, h'', _⟩
      · cases h'
      · simp only [Value.slice.injEq] at h'; omega
    have hgl : g < wr.heap.size := (hown.lt g rfl).2
    have hgb : w.heap.size + 1 ≤ g := (hown.lt g rfl).1
    have hne0 : ∀ b ∈ st0, 0 < b.l.length := fun x hx' => by
      rcases hne x (by simp [hx']) with h | h
      · exact h
      · rw [hln] at h
        have : st0 = [] := List.length_eq_zero_iff.1 (by omega)
        rw [this] at hx'; cases hx'
    have hstn : st0.length ≤ 1048576 := by have := st_len (k := K) hne0; omega
    have hsum := sum_inC hbo.fits
    have hlen := hbo.at_.1
    have hbl : b.l.length ≤ 1048576 := by omega
    have hwr : IntKind.i64.wrap (st0.length : Int) = (st0.length : Int) := by rw [IntKind.wrap_i64]; omega
    have Hpop := hide hpop
    have Hbr := hide hbr0
    have Hbo := hide hbo
    clear hown hbr hbr0 hbo hpop
    obtain ⟨⟨ba, bn, bc⟩, bl, bd⟩ := b
    simp only at hlen hsum hbl q0 q1 hDD hCC
    subst hlen
    go_wp2
    rename World => wo
    obtain ⟨D0, hD0⟩ : ∃ n, n = wo.heap.size := ⟨_, rfl⟩
    go_loopw [8, 10, 50] (fun vd vt i wr => ∃ (k d' : Nat) (st' : List BrM), k ≤ bl.length ∧ i = .int .i64 k ∧ vd = .int .i64 d' ∧ wr.ownsRow (w.heap.size + 1) 77 2 vt st'.length (st'.flatMap BrM.cells) ∧ (∀ b ∈ st', BrOk K w b) ∧ (∀ b ∈ st', 0 < b.l.length) ∧ max (max d' (stD K st')) (bD K (bl.drop k) bd) = D ∧ c + bl.length + stC K st' + inC K (bl.drop k) = T ∧ 1 ≤ d' ∧ st'.length + (bl.length - k) ≤ st0.length + bl.length ∧ wr.heap[wo.heap.size]? = some (.cells #[.slice ba bl.length bc, .int .i64 bd] 77 (0, 0)) ∧ vt.ownBlock ≠ some wo.heap.size ∧ Ext w wr) (fun _ _ i _ => bl.length - (intOf i).toNat)
    case atStart =>
      refine ⟨0, d, st0, by omega, rfl, rfl, (unhide Hpop).alloc _, unhide Hbr, hne0, ?_, ?_, h1, by omega, heap_alloc_new _ _, ?_, hx.alloc _⟩
      · rw [List.drop_zero]; omega
      · rw [List.drop_zero]; omega
      · simp [Value.ownBlock]; omega
    case round =>
      obtain ⟨k, d', st', hk, rfl, rfl, hown, hbr, hne', hDD', hCC', h1', hsl, hA, hoff, hx'⟩ := hrel
      obtain ⟨ta, tc', rfl⟩ := owns_slice hown
      obtain ⟨a0, a1, af⟩ := row2 hA
      have hAz := lt_of_heap hA
      by_cases hlt : k < bl.length
      · obtain ⟨xb, xo, cs, rfl, hr, hxv⟩ := (unhide Hbo).at_.2 k bl[k] (by simp [hlt])
        obtain ⟨xi, xl, rfl, _, hxl, _, hxok⟩ := hxv.opens
        obtain ⟨c0, c1, c2, c3, c4⟩ := range5 (hx'.range hr)
        have hfx := hxv.fits
        rw [List.drop_eq_getElem_cons hlt] at hDD' hCC'
        rw [bD_cons hfx (unhide Hbo).one] at hDD'
        have hin : inC K (bl[k] :: bl.drop (k + 1)) = sumL (cntM K) bl[k].l + inC K (bl.drop (k + 1)) := rfl
        rw [hin] at hCC'
        have hxn := hxl.1
        have hbd := (unhide Hbo).low
        have hbd1 := (unhide Hbo).one
        simp only at hbd hbd1
        have hxs : bl[k].l.length ≤ sumL (cntM K) bl[k].l := by rw [sum_inC hfx.inner]; omega
        generalize bl[k] = x at *
        obtain ⟨xla, xln, xlc⟩ := xl
        simp only at hxn c4
        subst hxn
        have hxl63 : x.l.length ≤ 1048576 := by omega
        have hst' : st'.length ≤ 1048576 := by have := st_len (k := K) hne'; omega
        have hmx : max (d' : Int) (bd : Int) = ((max d' bd : Nat) : Int) := by omega
        simp only at hDD'
        by_cases hx0 : 0 < x.l.length
        · have hx0' : (0 : Int) < (x.l.length : Int) := by omega
          have Hown := hide hown
          have Hbr' := hide hbr
          clear hr hxv hbr hin
          go_wp2_with (at_builtin; refine wpList_app1 _ _ 78 77 (.agg #[.slice none 0 0, .int .i64 0]) 2 32 Tryz.underlying78 info80 rfl (by decide) (by decide) rfl rfl (w.heap.size + 1) _ st'.length _ rfl (((unhide Hown).alloc _).alloc _) (wr.heap.size + 1) 1 (BrM.cells ⟨⟨xla, x.l.length, xlc⟩, x.l, bd + 1⟩) rfl rfl ?c1 ?c2 ?c3 ?c4 ?_)
          case c1 => exact range_of_new2 _ _ _ _ (by simp)
          case c2 => exact one_br _
          case c3 => have := st_len (k := K) hne'; omega
          case c4 => simp; omega
          intro v1 w1 ho1 hg1
          have hoa := ((unhide Hown).alloc (.cells #[.int .i64 x.kind, .int .i64 x.n, .string x.s, .slice xi.a xi.len xi.cap, .slice xla x.l.length xlc] 28)).alloc (.cells #[.slice xla x.l.length xlc, .int .i64 ((bd : Int) + 1)] 77)
          have hA2 := (((Ext.refl wr).alloc (.cells #[.int .i64 x.kind, .int .i64 x.n, .string x.s, .slice xi.a xi.len xi.cap, .slice xla x.l.length xlc] 28)).alloc (.cells #[.slice xla x.l.length xlc, .int .i64 ((bd : Int) + 1)] 77)).heap hA
          have hA1 : w1.heap[wo.heap.size]? = some (.cells #[.slice (some ⟨xb, xo, none⟩) bl.length bc, .int .i64 bd] 77 (0, 0)) := by
            rw [hg1.block _ (lt_of_heap hA2) (fun e => hoff e.symm)]; exact hA2
          have hoff1 := own_off hA1 ho1 (br_cells st') (by simp; omega)
          have hE1 : Ext w w1 := ((hx'.alloc _).alloc _).owned hg1 hoa (by omega)
          have ho1' : w1.ownsRow (w.heap.size + 1) 77 2 v1 (st' ++ [(⟨⟨xla, x.l.length, xlc⟩, x.l, bd + 1⟩ : BrM)]).length ((st' ++ [(⟨⟨xla, x.l.length, xlc⟩, x.l, bd + 1⟩ : BrM)]).flatMap BrM.cells) := by
            rw [List.length_append, List.length_singleton, List.flatMap_append]
            simpa using ho1
          have hbin := bD_in K bd x.l hx0
          have hml : 1 ≤ maxL (depM K) x.l := by
            obtain ⟨y, hy⟩ : ∃ y, y ∈ x.l := List.exists_mem_of_length_pos hx0
            have h1 := maxL_mem (f := depM K) hy
            have h2 : 1 ≤ depM K y := by cases K <;> simp [depM]
            omega
          have Ho1 := hide ho1'
          have Hoff1 := hide hoff1
          have HA1 := hide hA1
          clear ho1 ho1' hA1 hoff1 hA2 hoa hg1
          go_wp2
          refine ⟨⟨k + 1, max d' bd, st' ++ [(⟨⟨xla, x.l.length, xlc⟩, x.l, bd + 1⟩ : BrM)], by omega, by go_num, rfl, unhide Ho1, fun b hb' => ?_, fun b hb' => ?_, ?_, ?_, by omega, ?_, unhide HA1, unhide Hoff1, hE1⟩, by simp [intOf]; omega⟩
          · rcases List.mem_append.1 hb' with h | h
            · exact unhide Hbr' b h
            · obtain rfl : b = ⟨⟨xla, x.l.length, xlc⟩, x.l, bd + 1⟩ := by simpa using h
              exact ⟨hxl, hfx.inner, by simp, by simp only; omega⟩
          · rcases List.mem_append.1 hb' with h | h
            · exact hne' b h
            · obtain rfl : b = ⟨⟨xla, x.l.length, xlc⟩, x.l, bd + 1⟩ := by simpa using h
              exact hx0
          · rw [stD_snoc]; simp only; omega
          · rw [stC_snoc]; simp only; omega
          · rw [List.length_append, List.length_singleton]; omega
        · have hz0 : x.l.length = 0 := by omega
          rw [hz0] at c4
          have Hz0 := hide hz0
          clear hz0
          have Hown := hide hown
          have Hbr' := hide hbr
          clear hr hxv hin hbr hx0
          go_wp2
          refine ⟨⟨k + 1, max d' bd, st', by omega, by go_num, rfl, (unhide Hown).alloc _, unhide Hbr', hne', ?_, ?_, by omega, by omega, ((Ext.refl _).alloc _).heap hA, hoff, hx'.alloc _⟩, by simp [intOf]; omega⟩
          · have e0 : bD K x.l (bd + 1) = 0 := by rw [List.length_eq_zero_iff.1 (unhide Hz0)]; rfl
            omega
          · have e0 : sumL (cntM K) x.l = 0 := by rw [List.length_eq_zero_iff.1 (unhide Hz0)]; rfl
            omega
      · have hdrop : bl.drop k = [] := List.drop_eq_nil_of_le (by omega)
        rw [hdrop] at hDD' hCC'
        rw [bD_nil] at hDD'
        have hi0 : inC K [] = 0 := rfl
        rw [hi0] at hCC'
        have Hown := hide hown
        have Hbr' := hide hbr
        clear hown hbr
        go_wp2
        refine ⟨⟨d', c + bl.length, st', rfl, by go_num, unhide Hown, unhide Hbr', by omega, by omega, h1', fun b hb' => .inl (hne' b hb'), hx'⟩, ?_⟩
        simp [intOf, lenOf]
        omega
end Go.Proofs.YtmdpdgldmedebaaGreatDoor

namespace Go.Proofs.YtmdpdgldmedebaaGreatDoor
set_option linter.unusedSimpArgs false
set_option linter.unusedVariables false
open Go.RowKit

def largeB (K : Nat) (v : ValueM) : Bool := decide (24 < depM K v) || decide (400 < cntM K v)
theorem large_of {K : Nat} {v : ValueM} {d c : Nat} (h : SizeIs K v 24 400 d c) : (decide (24 < (d : Int)) || decide (400 < (c : Int))) = largeB K v := by
  have h1 := h.dep
  have h2 := h.cnt
  have h3 := h.all
  unfold largeB
  by_cases hd : (d : Int) ≤ 24
  · by_cases hc : (c : Int) ≤ 400
    · obtain ⟨e1, e2⟩ := h3 hd hc
      rw [← e1, ← e2]
      congr 1
      · exact decide_eq_decide.2 (by omega)
      · exact decide_eq_decide.2 (by omega)
    · rw [show decide (400 < (c : Int)) = true by simp; omega, show decide (400 < cntM K v) = true by simp; omega]; simp
  · rw [show decide (24 < (d : Int)) = true by simp; omega, show decide (24 < depM K v) = true by simp; omega]; simp

set_option maxHeartbeats 800000 in
theorem tooLarge_any (K : Nat) (v : ValueM) (ids l : SV) (w : World) (hv : ValueAt K w [.int .i64 v.kind, .int .i64 v.n, .string v.s, .slice ids.a ids.len ids.cap, .slice l.a l.len l.cap] v) (hb : cntM K v ≤ 1048576) :
    Calls Tryz.prog 33 #[.agg #[.int .i64 v.kind, .int .i64 v.n, .string v.s, .slice ids.a ids.len ids.cap, .slice l.a l.len l.cap]] w fun e w' => e = .returned (.bool (largeB K v)) ∧ Ext w w' := by
  have hx0 : Ext w (w.alloc (.cells #[.int .i64 v.kind, .int .i64 v.n, .string v.s, .slice ids.a ids.len ids.cap, .slice l.a l.len l.cap] 28)) := (Ext.refl w).alloc _
  have Hv := hide (hv.ext hx0)
  clear hv
  go_enter Tryz.func33, Tryz.ntmps33
  go_wp2_with fail
  refine (sizeWithin_any K v ids l 24 400 _ (unhide Hv) hb).mono ?_
  rintro e w1 ⟨d, c, rfl, hsz, hx1⟩
  have hl := large_of hsz
  have HL := hide hl
  clear hl hsz
  by_cases hd : 24 < (d : Int)
  · have hdd : decide (24 < (d : Int)) = true := by simpa using hd
    go_wp2
    go_ret
    exact ⟨ret_bool (by rw [← unhide HL]; simp [hd]), hx0.trans hx1⟩
  · by_cases hc : 400 < (c : Int)
    · go_wp2
      go_ret
      exact ⟨ret_bool (by rw [← unhide HL]; simp [hc]), hx0.trans hx1⟩
    · go_wp2
      go_ret
      exact ⟨ret_bool (by rw [← unhide HL, show decide (24 < (d : Int)) = false from decide_eq_false (by omega), show decide (400 < (c : Int)) = false from decide_eq_false (by omega)]), hx0.trans hx1⟩
end Go.Proofs.YtmdpdgldmedebaaGreatDoor

