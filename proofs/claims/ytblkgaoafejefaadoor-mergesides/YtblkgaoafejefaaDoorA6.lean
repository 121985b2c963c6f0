import Derived.Test.YtblkgaoafejefaaDoorA5
import Derived.Test.YtblkgaoafejefaaDoorN1
import Derived.Test.YtblkgaoafejefaaDoorS1
namespace Go.Proofs.YtblkgaoafejefaaDoor
set_option linter.unusedSimpArgs false
set_option linter.unusedVariables false
open Go.RowKit Go.Sort

def tyK (s : TS) (k : Nat) : TypeM := if k = 0 then s.was else if k = 1 then s.a else s.b
def accN (s : TS) : Nat → List Int
  | 0 => []
  | k + 1 => accN s k ++ (tyK s k).items.map (·.n)
def preN (acc : List Int) (l : List ItemM) (j : Nat) : List Int := acc ++ (l.take j).map (·.n)
theorem preN_zero (acc : List Int) (l : List ItemM) : preN acc l 0 = acc := by simp [preN]
theorem preN_succ (acc : List Int) {l : List ItemM} {j : Nat} (h : j < l.length) : preN acc l (j + 1) = preN acc l j ++ [l[j].n] := by unfold preN; rw [List.take_succ_eq_append_getElem h, List.map_append, List.append_assoc]; rfl
theorem preN_end (acc : List Int) {l : List ItemM} {j : Nat} (h : ¬ j < l.length) : preN acc l j = acc ++ l.map (·.n) := by unfold preN; rw [List.take_of_length_le (by omega)]
theorem preN_len (acc : List Int) (l : List ItemM) (j : Nat) : (preN acc l j).length ≤ acc.length + l.length := by unfold preN; simp; omega
theorem accN_all (s : TS) : accN s 3 = s.was.items.map (·.n) ++ s.a.items.map (·.n) ++ s.b.items.map (·.n) := by simp [accN, tyK]
theorem take_snoc {α β : Type} {l : List α} {j : Nat} (h : j < l.length) (f : α → β) : (l.take (j + 1)).map f = (l.take j).map f ++ [f l[j]] := by rw [List.take_succ_eq_append_getElem h, List.map_append]; rfl
theorem sortCompact_any (base : Nat) (sv : SV) (l : List Int) (w0 w : World) (ho : w.ownsRow base 3 1 (.slice sv.a sv.len sv.cap) l.length (l.flatMap encI)) (hx : Ext w0 w) (hb : w0.heap.size ≤ base) (hl : l.length ≤ 4611686018427387903) :
    Calls Tryd.prog 69 #[.slice sv.a sv.len sv.cap] w fun e w1 => e = .returned (.tuple #[]) ∧ Ext w0 w1 ∧ Calls Tryd.prog 70 #[.slice sv.a sv.len sv.cap] w1 fun e w' => ∃ sv' : SV, e = .returned (.slice sv'.a sv'.len sv'.cap) ∧ IntsAt w' sv' (unions ltI l) ∧ sv'.ok ∧ sv'.Fresh w0 ∧ Ext w0 w' := by
  obtain ⟨a, n, cap⟩ := sv
  by_cases h0 : l = []
  · subst h0
    have hn : n = 0 := by
      have := sliceAt_of_owns encI (fun _ => rfl) ho rfl
      obtain ⟨s', e, h', _⟩ := this
      simp only [Value.slice.injEq] at e
      simp at h'
      omega
    subst hn
    refine (Tryd.slices_Sort_int_none a cap w).mono ?_
    rintro e w1 ⟨rfl, rfl⟩
    refine ⟨rfl, hx, ?_⟩
    refine (Tryd.slices_Compact_int_empty a cap w1).mono ?_
    rintro e w2 ⟨rfl, rfl⟩
    exact ⟨⟨a, 0, cap⟩, rfl, ⟨rfl, fun i x hx => by simp [unions] at hx⟩, ok_of_owns ho, fresh_of_owns ho hb, hx⟩
  · obtain ⟨g, cap', hv, hg, hH, hsort⟩ := sorted1_own (Value.int .i64) ho h0
    simp only [Value.slice.injEq] at hv
    obtain ⟨rfl, rfl, rfl⟩ := hv
    refine (Tryd.slices_Sort_int g 0 cap l w hH hg (by omega)).mono ?_
    rintro e w1 ⟨rfl, m, os, hw1⟩
    obtain ⟨h1, h2⟩ := hsort (l.mergeSort fun x y => decide (x ≤ y)).toArray m os (by simp)
    have hw1' : w1 = sortWorld (Value.int .i64) w g 0 m (l.mergeSort fun x y => decide (x ≤ y)).toArray os := hw1
    rw [← hw1'] at h1 h2
    have hgb : w0.heap.size ≤ g := Nat.le_trans hb (ho.lt g rfl).1
    have hx1 : Ext w0 w1 := hx.grown h2 (fun k hk => by cases hk; exact hgb)
    refine ⟨rfl, hx1, ?_⟩
    obtain ⟨zs, hzs⟩ : ∃ zs, zs = l.mergeSort fun x y => decide (x ≤ y) := ⟨_, rfl⟩
    have hlen : zs.length = l.length := by rw [hzs]; simp
    rw [← hzs] at h1
    have h1' : w1.ownsRow base 3 1 (.slice (some ⟨g, 0, none⟩) l.length cap) zs.length (zs.flatMap fun x => [Value.int .i64 x]) := by rw [hlen]; simpa using h1
    obtain ⟨g', cap', hv, hg', hH', hsort'⟩ := sorted1_own (Value.int .i64) h1' (fun e => h0 (List.length_eq_zero_iff.1 (by rw [← hlen, e]; rfl)))
    simp only [Value.slice.injEq, Option.some.injEq, Addr.mk.injEq] at hv
    obtain ⟨⟨rfl, _⟩, _, rfl⟩ := hv
    have hcap : zs.length ≤ cap := by
      have := (ok_of_owns (s := ⟨some ⟨g, 0, none⟩, l.length, cap⟩) h1').1
      simp only at this
      omega
    rw [← hlen]
    refine (Tryd.slices_Compact_int g 0 cap zs w1 hH' (by omega) hcap).mono ?_
    rintro e w2 ⟨rfl, q, hw2⟩
    have hr := sortInt_rise l
    rw [← hzs] at hr
    have hc : Lib.compact zs = unions ltI l := compact_unions ordI hr.1 hr.2
    rw [hc] at hw2 ⊢
    have hcl : (unions ltI l).length ≤ zs.length := by
      rw [← hc]
      unfold Lib.compact Lib.compactUpTo
      rw [List.length_map]
      exact Nat.le_trans (List.length_filter_le _ _) (by simp)
    obtain ⟨h3, h4⟩ := hsort' (unions ltI l ++ List.replicate (zs.length - (unions ltI l).length) 0).toArray q #[] (by simp; omega)
    have hw2' : w2 = sortWorld (Value.int .i64) w1 g 0 q (unions ltI l ++ List.replicate (zs.length - (unions ltI l).length) 0).toArray #[] := by rw [hw2]; exact (grow_empty _).symm
    rw [← hw2'] at h3 h4
    refine ⟨⟨some ⟨g, 0, none⟩, (unions ltI l).length, cap⟩, rfl, ?_, ⟨by simp only; omega, fun h => by cases h⟩, fun ad h => by cases h; exact hgb, hx1.grown h4 (fun k hk => by cases hk; exact hgb)⟩
    have h5 : w2.ownsRow base 3 1 (.slice (some ⟨g, 0, none⟩) zs.length cap) (unions ltI l ++ List.replicate (zs.length - (unions ltI l).length) 0).length ((unions ltI l ++ List.replicate (zs.length - (unions ltI l).length) 0).flatMap encI) := by
      have e : (unions ltI l ++ List.replicate (zs.length - (unions ltI l).length) 0).length = zs.length := by simp; omega
      rw [e]
      have h3' : w2.ownsRow base 3 1 (.slice (some ⟨g, 0, none⟩) l.length cap) zs.length ((unions ltI l ++ List.replicate (zs.length - (unions ltI l).length) 0).flatMap encI) := h3
      rw [hlen] at h3' ⊢
      exact h3'
    obtain ⟨s', hs', hat⟩ := sliceAt_of_owns encI (fun _ => rfl) h5 rfl
    simp only [Value.slice.injEq] at hs'
    refine ⟨rfl, fun i x hx => ?_⟩
    obtain ⟨b, o, cs, h6, h7, h8⟩ := hat.2 i x (by rw [List.getElem?_append_left (List.getElem?_eq_some_iff.1 hx).1]; exact hx)
    exact ⟨b, o, cs, by rw [hs'.1]; exact h6, h7, by rw [h8]; rfl⟩
theorem three0 (c0 c1 c2 c3 c4 d0 d1 d2 d3 d4 e0 e1 e2 e3 e4 : Value) (w : World) : Sem.run Tryd.prog (Instr.index 120 (Value.agg #[c0, c1, c2, c3, c4, d0, d1, d2, d3, d4, e0, e1, e2, e3, e4]) (Value.int IntKind.i64 0)) w = Result.ok (Value.agg #[c0, c1, c2, c3, c4]) w := by kernel_rfl
theorem three1 (c0 c1 c2 c3 c4 d0 d1 d2 d3 d4 e0 e1 e2 e3 e4 : Value) (w : World) : Sem.run Tryd.prog (Instr.index 120 (Value.agg #[c0, c1, c2, c3, c4, d0, d1, d2, d3, d4, e0, e1, e2, e3, e4]) (Value.int IntKind.i64 1)) w = Result.ok (Value.agg #[d0, d1, d2, d3, d4]) w := by kernel_rfl
theorem three2 (c0 c1 c2 c3 c4 d0 d1 d2 d3 d4 e0 e1 e2 e3 e4 : Value) (w : World) : Sem.run Tryd.prog (Instr.index 120 (Value.agg #[c0, c1, c2, c3, c4, d0, d1, d2, d3, d4, e0, e1, e2, e3, e4]) (Value.int IntKind.i64 2)) w = Result.ok (Value.agg #[e0, e1, e2, e3, e4]) w := by kernel_rfl
set_option maxHeartbeats 6400000 in
set_option maxRecDepth 20000 in
theorem numbers_any (nm wn : ByteArray) (we : Bool) (wf wg wi : SV) (an : ByteArray) (ae : Bool) (af ag ai : SV) (bn : ByteArray) (be : Bool) (bf bg bi : SV) (s : TS) (w : World) (hw : TypeAt w ⟨wn, we, wf, wg, wi⟩ s.was) (ha : TypeAt w ⟨an, ae, af, ag, ai⟩ s.a) (hb : TypeAt w ⟨bn, be, bf, bg, bi⟩ s.b) (n0 : s.was.items.length ≤ 1000) (n1 : s.a.items.length ≤ 1000) (n2 : s.b.items.length ≤ 1000) :
    Calls Tryd.prog 46 #[.agg #[.string nm, .string wn, .bool we, .slice wf.a wf.len wf.cap, .slice wg.a wg.len wg.cap, .slice wi.a wi.len wi.cap, .string an, .bool ae, .slice af.a af.len af.cap, .slice ag.a ag.len ag.cap, .slice ai.a ai.len ai.cap, .string bn, .bool be, .slice bf.a bf.len bf.cap, .slice bg.a bg.len bg.cap, .slice bi.a bi.len bi.cap]] w fun e w' => ∃ sv : SV, e = .returned (.slice sv.a sv.len sv.cap) ∧ IntsAt w' sv (numbersM s) ∧ sv.ok ∧ sv.Fresh w ∧ Ext w w' := by
  obtain ⟨W, hW⟩ : ∃ W, W = w.alloc (.cells #[.string nm, .string wn, .bool we, .slice wf.a wf.len wf.cap, .slice wg.a wg.len wg.cap, .slice wi.a wi.len wi.cap, .string an, .bool ae, .slice af.a af.len af.cap, .slice ag.a ag.len ag.cap, .slice ai.a ai.len ai.cap, .string bn, .bool be, .slice bf.a bf.len bf.cap, .slice bg.a bg.len bg.cap, .slice bi.a bi.len bi.cap] 49) := ⟨_, rfl⟩
  have hxW : Ext w W := by rw [hW]; exact (Ext.refl w).alloc _
  have rW : W.heap[w.heap.size]? = some (.cells #[.string nm, .string wn, .bool we, .slice wf.a wf.len wf.cap, .slice wg.a wg.len wg.cap, .slice wi.a wi.len wi.cap, .string an, .bool ae, .slice af.a af.len af.cap, .slice ag.a ag.len ag.cap, .slice ai.a ai.len ai.cap, .string bn, .bool be, .slice bf.a bf.len bf.cap, .slice bg.a bg.len bg.cap, .slice bi.a bi.len bi.cap] 49 (0, 0)) := by rw [hW]; exact heap_alloc_new _ _
  have HW := hide hW
  have l0 := hw.items.1
  have l1 := ha.items.1
  have l2 := hb.items.1
  have HI0 : Hid (ItemsAt w wi s.was.items) := hw.items
  have HI1 : Hid (ItemsAt w ai s.a.items) := ha.items
  have HI2 : Hid (ItemsAt w bi s.b.items) := hb.items
  simp only at l0 l1 l2
  obtain ⟨base, hbase⟩ : ∃ b, b = W.heap.size := ⟨_, rfl⟩
  have hb1 : w.heap.size ≤ base := by rw [hbase]; exact hxW.size
  have hb2 : W.heap.size ≤ base := by omega
  have hb3 : base ≤ W.heap.size := by omega
  clear hW hw ha hb hbase
  obtain ⟨wia, win, wic⟩ := wi
  obtain ⟨aia, ain, aic⟩ := ai
  obtain ⟨bia, bin, bic⟩ := bi
  simp only at l0 l1 l2
  subst l0 l1 l2
  obtain ⟨q0, q1, q2, q3, q4, q5, q6, q7, q8, q9, q10, q11, q12, q13, q14, q15⟩ := row16 rW
  have hacc : Hid (∀ k, k ≤ 3 → (accN s k).length ≤ 3000) := fun k hk => by
    have : k = 0 ∨ k = 1 ∨ k = 2 ∨ k = 3 := by omega
    rcases this with rfl | rfl | rfl | rfl <;> simp [accN, tyK] <;> omega
  go_enter Tryd.func46, Tryd.ntmps46
  go_wp2
  rw [← unhide HW]
  go_loopw [3, 15] (fun l i wr => ∃ (k : Nat) (sv : SV), k ≤ 3 ∧ i = .int .i64 k ∧ l = .slice sv.a sv.len sv.cap ∧ wr.ownsRow base 3 1 (.slice sv.a sv.len sv.cap) (accN s k).length ((accN s k).flatMap encI) ∧ base ≤ wr.heap.size ∧ Ext w wr) (fun _ i _ => 3 - (intOf i).toNat)
  case atStart => exact ⟨0, ⟨none, 0, 0⟩, by omega, rfl, rfl, owns_nil _ _ _ _, by omega, hxW⟩
  case round =>
    obtain ⟨k, sv, hk, rfl, rfl, ho, hbw, hE⟩ := hrel
    rename World => wo
    by_cases hlt : k < 3
    · have hsel : ∃ (c0 : ByteArray) (c1 : Bool) (c2 c3 : SV) (ia : Option Addr) (ic : Nat), (∀ w, Sem.run Tryd.prog (Instr.index 120 (Value.agg #[.string wn, .bool we, .slice wf.a wf.len wf.cap, .slice wg.a wg.len wg.cap, .slice wia s.was.items.length wic, .string an, .bool ae, .slice af.a af.len af.cap, .slice ag.a ag.len ag.cap, .slice aia s.a.items.length aic, .string bn, .bool be, .slice bf.a bf.len bf.cap, .slice bg.a bg.len bg.cap, .slice bia s.b.items.length bic]) (Value.int IntKind.i64 (k : Int))) w = Result.ok (Value.agg #[.string c0, .bool c1, .slice c2.a c2.len c2.cap, .slice c3.a c3.len c3.cap, .slice ia (tyK s k).items.length ic]) w) ∧ ItemsAt w ⟨ia, (tyK s k).items.length, ic⟩ (tyK s k).items ∧ (tyK s k).items.length ≤ 1000 := by
        have hk3 : k = 0 ∨ k = 1 ∨ k = 2 := by omega
        rcases hk3 with rfl | rfl | rfl
        · exact ⟨wn, we, wf, wg, wia, wic, three0 _ _ _ _ _ _ _ _ _ _ _ _ _ _ _, unhide HI0, n0⟩
        · exact ⟨an, ae, af, ag, aia, aic, three1 _ _ _ _ _ _ _ _ _ _ _ _ _ _ _, unhide HI1, n1⟩
        · exact ⟨bn, be, bf, bg, bia, bic, three2 _ _ _ _ _ _ _ _ _ _ _ _ _ _ _, unhide HI2, n2⟩
      obtain ⟨tn, te, tf, tg, ia, ic, h3, hI, nk⟩ := hsel
      have HI := hide hI
      have hal := hacc.out k (by omega)
      have hstep : Hid (accN s (k + 1) = accN s k ++ (tyK s k).items.map (·.n)) := rfl
      generalize (tyK s k).items = items at *
      have hki : (k : Int) < 3 := by omega
      clear hI
      go_wp2
      go_loopw [3, 21] (fun l i wr => ∃ (j : Nat) (sv : SV), j ≤ items.length ∧ i = .int .i64 j ∧ l = .slice sv.a sv.len sv.cap ∧ wr.ownsRow base 3 1 (.slice sv.a sv.len sv.cap) (preN (accN s k) items j).length ((preN (accN s k) items j).flatMap encI) ∧ base ≤ wr.heap.size ∧ Ext w wr) (fun _ i _ => items.length - (intOf i).toNat)
      case atStart => exact ⟨0, sv, by omega, rfl, rfl, by rw [preN_zero]; exact owns_ext ho ((Ext.refl wo).alloc _), by simp; omega, hE.alloc _⟩
      case round =>
        clear ho hbw hE h3
        obtain ⟨j, sv, hj, rfl, rfl, ho, hbw, hE⟩ := hrel
        by_cases hlt2 : j < items.length
        · obtain ⟨ib, io, cs, eia, hri, rfl⟩ := (unhide HI).2 j items[j] (by simp [hlt2])
          simp only at eia
          subst eia
          obtain ⟨i0, i1⟩ := range2 (hE.range hri)
          have hnx : Hid (preN (accN s k) items (j + 1) = preN (accN s k) items j ++ [items[j].n]) := preN_succ _ hlt2
          have hpl : (preN (accN s k) items j).length ≤ 4000 := Nat.le_trans (preN_len _ _ _) (by omega)
          generalize items[j] = it at *
          have hx1 : Ext wr (wr.alloc (.cells #[.string it.name, .int .i64 it.n] 73)) := (Ext.refl wr).alloc _
          have ho1 := owns_ext ho hx1
          clear hri
          go_wp2_with (at_builtin; refine wpList_app1 _ _ 43 3 (.int .i64 0) 1 8 Tryd.underlying43 info3 rfl (by decide) (by decide) rfl rfl base _ (preN (accN s k) items j).length _ rfl (ho1.alloc _) (wr.heap.size + 1) 1 [.int .i64 it.n] rfl rfl ?c1 ?c2 ?c3 ?c4 ?_)
          case c1 => exact range_of_new1 _ _ _ (by simp)
          case c2 => first | exact one_int it.n | rfl
          case c3 => omega
          case c4 => first | omega | (simp; omega)
          intro v8 W8 ho8 hg8
          have ho8' : W8.ownsRow base 3 1 v8 (preN (accN s k) items j ++ [it.n]).length ((preN (accN s k) items j ++ [it.n]).flatMap encI) := by
            rw [List.length_append, List.length_singleton, List.flatMap_append]
            simpa [encI] using ho8
          obtain ⟨sv', hsv', _⟩ := sliceAt_of_owns encI (fun _ => rfl) ho8' rfl
          rw [hsv'] at ho8' ⊢
          have hE8 : Ext w W8 := ((hE.trans hx1).alloc _).owned hg8 (ho1.alloc _) hb1
          have hbw8 : base ≤ W8.heap.size := Nat.le_trans hbw (Nat.le_trans (by simp; omega) hg8.size)
          clear hsv' ho8 hg8 ho1 hx1
          go_wp2
          exact ⟨⟨j + 1, sv', by omega, by go_num, rfl, by rw [unhide hnx]; exact ho8', hbw8, hE8⟩, by simp [intOf]; omega⟩
        · rw [preN_end _ hlt2, ← unhide hstep] at ho
          go_wp2
          exact ⟨⟨k + 1, sv, by omega, by go_num, rfl, ho, hbw, hE⟩, by simp [intOf]; omega⟩
    · have hk3 : k = 3 := by omega
      subst hk3
      have hal := hacc.out 3 (by omega)
      have hnum : Hid (numbersM s = unions ltI (accN s 3)) := by unfold Hid numbersM; rw [accN_all]
      go_wp2_with fail
      refine (sortCompact_any base sv (accN s 3) w wo ho hE hb1 (by omega)).mono ?_
      rintro e w1 ⟨rfl, hx1, hcc⟩
      go_wp2_with fail
      refine hcc.mono ?_
      rintro e w2 ⟨sv', rfl, hat, hok, hfs, hx2⟩
      rw [← unhide hnum] at hat
      have Hat := hide hat
      clear hat hcc
      go_wp2
      go_ret
      exact ⟨sv', rfl, unhide Hat, hok, hfs, hx2⟩
end Go.Proofs.YtblkgaoafejefaaDoor
