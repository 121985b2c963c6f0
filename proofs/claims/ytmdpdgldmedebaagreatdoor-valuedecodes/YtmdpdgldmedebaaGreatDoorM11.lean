import Derived.Test.YtmdpdgldmedebaaGreatDoorM10
namespace Go.Proofs.YtmdpdgldmedebaaGreatDoor
set_option linter.unusedSimpArgs false
set_option linter.unusedVariables false
set_option linter.unusedSimpArgs false
set_option linter.unusedVariables false
open Go.RowKit

theorem fieldCells (f : FieldM) : f.cells.toArray = #[.int .i64 f.id, .string f.name, .string f.type, .int .i64 f.kind, .int .i64 f.rule] := rfl
def ValueM.zero : ValueM := ⟨0, 0, ⟨#[]⟩, [], []⟩
/-- No list and no text of it is longer than the walks bear. -/
def SmallV : Nat → ValueM → Prop
  | 0, _ => False
  | k + 1, v => v.s.size ≤ 1048576 ∧ v.ids.length ≤ 1048576 ∧ v.l.length ≤ 1048576 ∧ ∀ x ∈ v.l, SmallV k x
theorem SmallV.parts {k : Nat} {v : ValueM} (h : SmallV k v) : v.s.size ≤ 1048576 ∧ v.ids.length ≤ 1048576 ∧ v.l.length ≤ 1048576 := by
  cases k with
  | zero => exact h.elim
  | succ k => exact ⟨h.1, h.2.1, h.2.2.1⟩
/-- What is wrong first. -/
def firstE (p : Nat → Int) : Nat → Nat → Int
  | _, 0 => 0
  | i, n + 1 => if p i ≠ 0 then p i else firstE p (i + 1) n
def wrongAt (ts : BookM) (rec : TypeM → ValueM → Int) (t : TypeM) (v : ValueM) (i : Nat) : Int :=
  if (fieldM t (v.ids.getD i 0)).isSome = false then 3
  else if orderN ((fieldM t (v.ids.getD i 0)).getD FieldM.zero) (v.ids.take i) ≠ 0 then orderN ((fieldM t (v.ids.getD i 0)).getD FieldM.zero) (v.ids.take i)
  else if wrongOneN ts ((fieldM t (v.ids.getD i 0)).getD FieldM.zero) (v.l.getD i ValueM.zero).kind (v.l.getD i ValueM.zero).n (v.l.getD i ValueM.zero).s (v.l.getD i ValueM.zero).ids.length (v.l.getD i ValueM.zero).l.length ≠ 0 then wrongOneN ts ((fieldM t (v.ids.getD i 0)).getD FieldM.zero) (v.l.getD i ValueM.zero).kind (v.l.getD i ValueM.zero).n (v.l.getD i ValueM.zero).s (v.l.getD i ValueM.zero).ids.length (v.l.getD i ValueM.zero).l.length
  else if ((fieldM t (v.ids.getD i 0)).getD FieldM.zero).kind ≠ 5 then 0
  else rec ((findM ts ((fieldM t (v.ids.getD i 0)).getD FieldM.zero).type).getD TypeM.zero) (v.l.getD i ValueM.zero)
def wrongM (ts : BookM) : Nat → TypeM → ValueM → Int
  | 0, _, _ => 0
  | k + 1, t, v => if v.kind ≠ 2 then 5 else if v.l.length ≠ v.ids.length ∨ oneKindB v.kind v.n v.s v.ids.length v.l.length = false then 1
    else if firstE (wrongAt ts (wrongM ts k) t v) 0 v.ids.length ≠ 0 then firstE (wrongAt ts (wrongM ts k) t v) 0 v.ids.length else if lacksB t v.ids = true then 3 else 0
theorem firstE_bad {p : Nat → Int} {i n : Nat} (hn : 0 < n) (h : p i ≠ 0) : firstE p i n = p i := by
  cases n with
  | zero => omega
  | succ n => rw [firstE, if_pos h]
theorem firstE_ok {p : Nat → Int} {i n : Nat} (hn : 0 < n) (h : p i = 0) : firstE p i n = firstE p (i + 1) (n - 1) := by
  cases n with
  | zero => omega
  | succ n => rw [firstE, if_neg (by simp [h])]; rfl

set_option maxHeartbeats 12800000 in
set_option maxRecDepth 10000 in
theorem wrongMessage_any (sb : SV) (ts : BookM) (hn : ts.Small) : ∀ (k : Nat) (tv : TV) (t : TypeM) (v : ValueM) (ids l : SV) (w : World), BookAt w sb ts → TypeAt w tv t → t.Small → SmallV k v →
    ValueAt k w [.int .i64 v.kind, .int .i64 v.n, .string v.s, .slice ids.a ids.len ids.cap, .slice l.a l.len l.cap] v →
    Calls Tryz.prog 34 #[.agg #[.slice sb.a sb.len sb.cap], .agg #[.string tv.name, .bool tv.enum, .slice tv.fields.a tv.fields.len tv.fields.cap, .slice tv.gone.a tv.gone.len tv.gone.cap, .slice tv.items.a tv.items.len tv.items.cap], .agg #[.int .i64 v.kind, .int .i64 v.n, .string v.s, .slice ids.a ids.len ids.cap, .slice l.a l.len l.cap]] w fun e w' => e = .returned (.int .i64 (wrongM ts k t v)) ∧ Ext w w' := by
  intro k
  induction k with
  | zero => intro _ _ _ _ _ _ _ _ _ h; exact h.elim
  | succ k ih =>
    intro tv t v ids l w hb ht hts hsv hv
    obtain ⟨ids', l', he, hids, hl, hiok, hlok⟩ := hv
    simp only [List.cons.injEq, Value.slice.injEq, and_true, true_and] at he
    obtain ⟨⟨i1, i2, i3⟩, l1, l2, l3⟩ := he
    obtain rfl : l = l' := by cases l; cases l'; simp_all
    obtain rfl : ids = ids' := by cases ids; cases ids'; simp_all
    clear i1 i2 i3 l1 l2 l3
    obtain ⟨hsz, hin, hln, hall⟩ := hsv
    obtain ⟨ia, il, ic⟩ := ids
    obtain ⟨la, ll, lc⟩ := l
    have eil := hids.1
    have ell := hl.1
    simp only at eil ell
    subst eil ell
    obtain ⟨R, hR⟩ : ∃ R, R = wrongM ts (k + 1) t v := ⟨_, rfl⟩
    rw [← hR]
    have E : Hid (R = if v.kind ≠ 2 then 5 else if v.l.length ≠ v.ids.length ∨ oneKindB v.kind v.n v.s v.ids.length v.l.length = false then 1
      else if firstE (wrongAt ts (wrongM ts k) t v) 0 v.ids.length ≠ 0 then firstE (wrongAt ts (wrongM ts k) t v) 0 v.ids.length else if lacksB t v.ids = true then 3 else 0) := hR
    clear hR
    have HP : Hid (∀ i, wrongAt ts (wrongM ts k) t v i = wrongAt ts (wrongM ts k) t v i) := fun _ => rfl
    have Hv : Hid (∀ i (h : i < v.ids.length) (h' : i < v.l.length), wrongAt ts (wrongM ts k) t v i =
      if (fieldM t v.ids[i]).isSome = false then 3
      else if orderN ((fieldM t v.ids[i]).getD FieldM.zero) (v.ids.take i) ≠ 0 then orderN ((fieldM t v.ids[i]).getD FieldM.zero) (v.ids.take i)
      else if wrongOneN ts ((fieldM t v.ids[i]).getD FieldM.zero) v.l[i].kind v.l[i].n v.l[i].s v.l[i].ids.length v.l[i].l.length ≠ 0 then wrongOneN ts ((fieldM t v.ids[i]).getD FieldM.zero) v.l[i].kind v.l[i].n v.l[i].s v.l[i].ids.length v.l[i].l.length
      else if ((fieldM t v.ids[i]).getD FieldM.zero).kind ≠ 5 then 0
      else wrongM ts k ((findM ts ((fieldM t v.ids[i]).getD FieldM.zero).type).getD TypeM.zero) v.l[i]) := fun i h h' => by
        unfold wrongAt
        rw [show v.ids.getD i 0 = v.ids[i] by simp [List.getD, h], show v.l.getD i ValueM.zero = v.l[i] by simp [List.getD, h']]
    generalize wrongAt ts (wrongM ts k) t v = P at *
    clear HP
    obtain ⟨vk, vn, vs, vids, vl⟩ := v
    simp only at E Hv hids hl hsz hin hln hall hiok hlok
    show Calls Tryz.prog 34 #[.agg #[.slice sb.a sb.len sb.cap], .agg #[.string tv.name, .bool tv.enum, .slice tv.fields.a tv.fields.len tv.fields.cap, .slice tv.gone.a tv.gone.len tv.gone.cap, .slice tv.items.a tv.items.len tv.items.cap], .agg #[.int .i64 vk, .int .i64 vn, .string vs, .slice ia vids.length ic, .slice la vl.length lc]] w _
    have Hn := hide hn
    have Hb := hide hb
    have Ht := hide ht
    have Hts := hide hts
    have Hids := hide hids
    have Hl := hide hl
    have Hall := hide hall
    have hic := hiok.1
    simp only at hic
    clear hn hb ht hts hids hl hall
    have hii : vids.length ≤ 9223372036854775807 := by omega
    have hli : vl.length ≤ 9223372036854775807 := by omega
    have hX0 : Ext w (((w.alloc (.cells #[.slice sb.a sb.len sb.cap] 24)).alloc (.cells #[.string tv.name, .bool tv.enum, .slice tv.fields.a tv.fields.len tv.fields.cap, .slice tv.gone.a tv.gone.len tv.gone.cap, .slice tv.items.a tv.items.len tv.items.cap] 50)).alloc (.cells #[.int .i64 vk, .int .i64 vn, .string vs, .slice ia vids.length ic, .slice la vl.length lc] 28)) := (((Ext.refl w).alloc _).alloc _).alloc _
    by_cases hk2 : vk = 2
    case neg =>
      have Hr : Hid (R = 5) := by unfold Hid; rw [E.out, if_pos hk2]
      clear E
      go_enter Tryz.func34, Tryz.ntmps34
      go_wp2
      go_ret
      exact ⟨ret_int (unhide Hr).symm, hX0⟩
    subst hk2
    by_cases hlen : vl.length = vids.length
    case neg =>
      have Hr : Hid (R = 1) := by unfold Hid; rw [E.out, if_neg (by simp), if_pos (.inl hlen)]
      have hli2 : ¬ (vl.length : Int) = (vids.length : Int) := by omega
      clear E
      go_enter Tryz.func34, Tryz.ntmps34
      go_wp2
      go_ret
      exact ⟨ret_int (unhide Hr).symm, hX0⟩
    have Hlen := hide hlen
    have hli2 : ((vl.length : Int) != (vids.length : Int)) = false := by simp; omega
    clear hlen hX0
    obtain ⟨w0, hw0⟩ : ∃ w0, w0 = ((w.alloc (.cells #[.slice sb.a sb.len sb.cap] 24)).alloc (.cells #[.string tv.name, .bool tv.enum, .slice tv.fields.a tv.fields.len tv.fields.cap, .slice tv.gone.a tv.gone.len tv.gone.cap, .slice tv.items.a tv.items.len tv.items.cap] 50)).alloc (.cells #[.int .i64 2, .int .i64 vn, .string vs, .slice ia vids.length ic, .slice la vl.length lc] 28) := ⟨_, rfl⟩
    obtain ⟨hx0, hz, r0, r1, r2⟩ := heaps3 hw0
    have HW0 := hide hw0
    clear hw0
    have b0 : w0.cell? ⟨w.heap.size, 0, none⟩ = some (.slice sb.a sb.len sb.cap) := cell_of_row _ _ 0 _ _ _ r0
    obtain ⟨t0, t1, t2, t3, t4, tf⟩ := row5 r1
    obtain ⟨v0, v1, v2, v3, v4, vf⟩ := row5 r2
    clear tf vf
    go_enter Tryz.func34, Tryz.ntmps34
    go_wp2_with fail
    rw [← unhide HW0]
    refine (ofOneKind_any 2 vn vs ⟨ia, vids.length, ic⟩ ⟨la, vl.length, lc⟩ w0 hii hli).mono ?_
    rintro e w1 ⟨rfl, hx1⟩
    have hE1 : Ext w w1 := hx0.trans hx1
    cases hone : oneKindB 2 vn vs vids.length vl.length
    · have Hr : Hid (R = 1) := by unfold Hid; rw [E.out, if_neg (by simp), if_pos (.inr hone)]
      clear E
      go_wp2
      go_ret
      exact ⟨ret_int (unhide Hr).symm, hE1⟩
    have E2 : Hid (R = if firstE P 0 vids.length ≠ 0 then firstE P 0 vids.length else if lacksB t vids = true then 3 else 0) := by
      unfold Hid; rw [E.out, if_neg (by simp), if_neg (by simp [hone]; exact (unhide Hlen))]
    have q3 := hx1.cell v3
    clear E
    go_wp2
    go_loopw [32] (fun i wr => ∃ j : Nat, j ≤ vids.length ∧ i = .int .i64 j ∧ firstE P 0 vids.length = firstE P j (vids.length - j) ∧ Ext w0 wr) (fun i _ => vids.length - (intOf i).toNat)
    case atStart => exact ⟨0, by omega, rfl, by simp, hx1⟩
    case round =>
      obtain ⟨j, hj, rfl, hfe, hxr⟩ := hrel
      have hEr : Ext w wr := hx0.trans hxr
      by_cases hlt : j < vids.length
      · have hlt2 : j < vl.length := by rw [unhide Hlen]; exact hlt
        obtain ⟨ib, io, cs, hia, hr, rfl⟩ := (unhide Hids).2 j vids[j] (by simp [hlt])
        obtain ⟨xb, xo, cs2, hla, hr2, hxv⟩ := (unhide Hl).2 j vl[j] (by simp [hlt2])
        simp only at hia hla
        subst hia hla
        obtain ⟨xi, xl, rfl, hxi, hxl, hxio, hxlo⟩ := hxv.opens
        have ci := hEr.cell (hr 0 _ rfl)
        rw [Nat.mul_one, Nat.add_zero] at ci
        obtain ⟨c0, c1, c2, c3, c4⟩ := range5 (hEr.range hr2)
        have hsx := unhide Hall vl[j] (List.getElem_mem hlt2)
        have HPj : Hid (P j = _) := unhide Hv j hlt hlt2
        have Hxv := hide hxv
        have hp1 : vl[j].s.size ≤ 9223372036854775807 := Nat.le_trans hsx.parts.1 (by decide)
        have hp2 : xi.len ≤ 9223372036854775807 := by rw [hxi.1]; exact Nat.le_trans hsx.parts.2.1 (by decide)
        have hp3 : xl.len ≤ 9223372036854775807 := by rw [hxl.1]; exact Nat.le_trans hsx.parts.2.2 (by decide)
        have hxi1 := hxi.1
        have hxl1 := hxl.1
        have b1 := hxr.cell b0
        obtain ⟨s0, s1, s2, s3, s4⟩ : wr.cell? ⟨w.heap.size + 1, 0, none⟩ = some (.string tv.name) ∧ wr.cell? ⟨w.heap.size + 1, 1, none⟩ = some (.bool tv.enum) ∧ wr.cell? ⟨w.heap.size + 1, 2, none⟩ = some (.slice tv.fields.a tv.fields.len tv.fields.cap) ∧ wr.cell? ⟨w.heap.size + 1, 3, none⟩ = some (.slice tv.gone.a tv.gone.len tv.gone.cap) ∧ wr.cell? ⟨w.heap.size + 1, 4, none⟩ = some (.slice tv.items.a tv.items.len tv.items.cap) := ⟨hxr.cell t0, hxr.cell t1, hxr.cell t2, hxr.cell t3, hxr.cell t4⟩
        have u3 := hxr.cell v3
        have u4 := hxr.cell v4
        generalize vids[j] = id at *
        generalize vl[j] = x at *
        obtain ⟨xia, xin, xic⟩ := xi
        obtain ⟨xla, xln, xlc⟩ := xl
        simp only at hxi1 hxl1 hp2 hp3 c3 c4 Hxv
        subst hxi1 hxl1
        clear hr hr2 hxv hxi hxl
        go_wp2_with fail
        refine (fieldOf_any tv t id _ ((unhide Ht).ext hEr) (Nat.le_trans (unhide Hts).fields (by decide))).mono ?_
        rintro e w2 ⟨rfl, hx2⟩
        have hE2 := hEr.trans hx2
        have hX2 := hxr.trans hx2
        cases hfs : (fieldM t id).isSome
        · have HP3 : Hid (P j = 3) := by unfold Hid; rw [HPj.out, if_pos hfs]
          have Hfe : Hid (firstE P 0 vids.length = 3) := by
            unfold Hid; rw [hfe, firstE_bad (by omega) (by rw [HP3.out]; decide), HP3.out]
          have Hr : Hid (R = 3) := by unfold Hid; rw [unhide E2, Hfe.out]; rfl
          clear E2 Hfe HP3 HPj hfe
          go_wp2
          go_ret
          exact ⟨ret_int (unhide Hr).symm, hE2.alloc _⟩
        have HPk : Hid (P j = if orderN ((fieldM t id).getD FieldM.zero) (vids.take j) ≠ 0 then orderN ((fieldM t id).getD FieldM.zero) (vids.take j)
          else if wrongOneN ts ((fieldM t id).getD FieldM.zero) x.kind x.n x.s x.ids.length x.l.length ≠ 0 then wrongOneN ts ((fieldM t id).getD FieldM.zero) x.kind x.n x.s x.ids.length x.l.length
          else if ((fieldM t id).getD FieldM.zero).kind ≠ 5 then 0
          else wrongM ts k ((findM ts ((fieldM t id).getD FieldM.zero).type).getD TypeM.zero) x) := by
            unfold Hid; rw [HPj.out, if_neg (by simp [hfs])]
        clear HPj
        generalize (fieldM t id).getD FieldM.zero = f at *
        rw [fieldCells]
        have hb2 := (unhide Hb).ext hE2
        have r02 := hX2.heap r0
        have r22 := hX2.heap r2
        have z2 := lt_of_heap r22
        have hx2a : Ext w2 (w2.alloc (.cells #[.int .i64 f.id, .string f.name, .string f.type, .int .i64 f.kind, .int .i64 f.rule] 56)) := (Ext.refl w2).alloc _
        go_wp2_with fail
        obtain ⟨W, hW⟩ : ∃ W, W = w2.alloc (.cells #[.int .i64 f.id, .string f.name, .string f.type, .int .i64 f.kind, .int .i64 f.rule] 56) := ⟨_, rfl⟩
        have hxW : Ext w2 W := by rw [hW]; exact hx2a
        have rW : W.heap[w2.heap.size]? = some (.cells #[.int .i64 f.id, .string f.name, .string f.type, .int .i64 f.kind, .int .i64 f.rule] 56 (0, 0)) := by rw [hW]; exact heap_alloc_new _ _
        rw [← hW]
        clear hW hx2a
        have hXW := hX2.trans hxW
        have hEW := hx0.trans hXW
        obtain ⟨f0, f1, f2, f3, f4, _⟩ := row5 rW
        have d3 := hXW.cell v3
        have d4 := hXW.cell v4
        have dB := hXW.cell b0
        obtain ⟨e0, e1, e2, e3, e4⟩ : W.cell? ⟨xb, xo + j * 5, none⟩ = some (.int .i64 x.kind) ∧ W.cell? ⟨xb, xo + j * 5 + 1, none⟩ = some (.int .i64 x.n) ∧ W.cell? ⟨xb, xo + j * 5 + 2, none⟩ = some (.string x.s) ∧ W.cell? ⟨xb, xo + j * 5 + 3, none⟩ = some (.slice xia x.ids.length xic) ∧ W.cell? ⟨xb, xo + j * 5 + 4, none⟩ = some (.slice xla x.l.length xlc) := by
          have h := hx2.trans hxW
          exact ⟨h.cell c0, h.cell c1, h.cell c2, h.cell c3, h.cell c4⟩
        clear c0 c1 c2 c3 c4 s0 s1 s2 s3 s4 u3 u4 b1 ci q3 hx2 hxW
        have hji : (j : Int) < (vids.length : Int) := by omega
        have hjc : j ≤ ic := by omega
        have hjc2 : (j : Int) ≤ (ic : Int) := by omega
        have hjl : (j : Int) < (vl.length : Int) := by omega
        have hS0 : Ext W W.drew := (Ext.refl W).drew
        have hpre : IntsAt W ⟨some ⟨ib, io, none⟩, j, ic⟩ (vids.take j) := by
          refine ⟨by simp; omega, fun i y hy => ?_⟩
          have hi : i < j := by have := (List.getElem?_eq_some_iff.1 hy).1; simp at this; omega
          rw [List.getElem?_take, if_pos hi] at hy
          obtain ⟨b', o', cs', h1', h2', h3'⟩ := (unhide Hids).2 i y hy
          exact ⟨b', o', cs', h1', hEW.range h2', h3'⟩
        refine wp_region_X (fun w' => Ext W w') (fun _ => false) (by kernel_rfl) ?_
        refine wpAnyX_take (i := 0) (v := .agg #[.int .i64 f.id, .string f.name, .string f.type, .int .i64 f.kind, .int .i64 f.rule]) rfl (by kernel_rfl) (by kernel_rfl) (fun _ _ _ h => h) (.inl ⟨rfl, fun w' hS => by simp [execOp, go_sem, hS.cell f0, hS.cell f1, hS.cell f2, hS.cell f3, hS.cell f4]⟩) (hS0) ?_
        simp only [Act.put, List.getElem_toArray, List.getElem_cons_zero, List.getElem_cons_succ, List.setIfInBounds_toArray, List.set_cons_succ, List.set_cons_zero]
        refine wpAnyX_take (i := 1) (v := .pointer (some ⟨w.heap.size + 1 + 1, 3, none⟩)) rfl (by kernel_rfl) (by kernel_rfl) (fun _ _ _ h => h) (.inl ⟨rfl, fun w' hS => by simp [execOp, go_sem]⟩) (hS0) ?_
        simp only [Act.put, List.getElem_toArray, List.getElem_cons_zero, List.getElem_cons_succ, List.setIfInBounds_toArray, List.set_cons_succ, List.set_cons_zero]
        refine wpAnyX_take (i := 2) (v := .slice (some ⟨ib, io, none⟩) vids.length ic) rfl (by kernel_rfl) (by kernel_rfl) (fun _ _ _ h => h) (.inl ⟨rfl, fun w' hS => by simp [execOp, go_sem, hS.cell d3]⟩) (hS0) ?_
        simp only [Act.put, List.getElem_toArray, List.getElem_cons_zero, List.getElem_cons_succ, List.setIfInBounds_toArray, List.set_cons_succ, List.set_cons_zero]
        refine wpAnyX_take (i := 3) (v := .int .i64 j) rfl (by kernel_rfl) (by kernel_rfl) (fun _ _ _ h => h) (.inl ⟨rfl, fun w' hS => by simp [execOp, go_sem]⟩) (hS0) ?_
        simp only [Act.put, List.getElem_toArray, List.getElem_cons_zero, List.getElem_cons_succ, List.setIfInBounds_toArray, List.set_cons_succ, List.set_cons_zero]
        refine wpAnyX_take (i := 4) (v := .slice (some ⟨ib, io, none⟩) j ic) rfl (by kernel_rfl) (by kernel_rfl) (fun _ _ _ h => h) (.inl ⟨rfl, fun w' hS => by simp [execOp, go_sem, hlt, hji, hic, hjc, hjc2]⟩) (hS0) ?_
        simp only [Act.put, List.getElem_toArray, List.getElem_cons_zero, List.getElem_cons_succ, List.setIfInBounds_toArray, List.set_cons_succ, List.set_cons_zero]
        refine wpAnyX_one (j := 5) rfl (by kernel_rfl) rfl fun K hK => ?_
        go_wp2_with fail
        refine (wrongOrder_any f ⟨some ⟨ib, io, none⟩, j, ic⟩ (vids.take j) _ (hpre.ext hS0) (by simp; omega)).mono ?_
        rintro e w3 ⟨rfl, hx3⟩
        have hS3 : Ext W w3 := hS0.trans hx3
        go_wp2
        refine hK.out _ _ (hS3) ?_
        clear hK K
        refine wpAnyX_one (j := 6) rfl (by kernel_rfl) rfl fun K hK => ?_
        go_wp2
        refine hK.out _ _ (hS3) ?_
        clear hK K
        refine wpAnyX_end [] [] rfl (by intro j i hj; simp at hj) (by kernel_rfl) (by intro i hi; simp at hi) fun K hK => ?_
        go_wp2
        refine hK.out _ _ ?_
        clear hK K
        generalize orderN f (vids.take j) = o at *
        have bad : Hid (∀ e : Int, e ≠ 0 → P j = e → R = e) := fun e he hp => by
          rw [unhide E2, hfe, firstE_bad (by omega) (by rw [hp]; exact he), hp, if_pos he]
        have good : Hid (P j = 0 → firstE P 0 vids.length = firstE P (j + 1) (vids.length - (j + 1))) := fun hp => by
          rw [hfe, firstE_ok (by omega) hp, show vids.length - j - 1 = vids.length - (j + 1) by omega]
        by_cases ho : o = 0
        case neg =>
          have Hr : Hid (R = o) := unhide bad o ho (by rw [HPk.out, if_pos ho])
          have hob : (o != 0) = true := by simpa using ho
          clear E2 HPk hfe bad good
          go_wp2
          go_ret
          exact ⟨ret_int (unhide Hr).symm, hEW.trans hS3⟩
        have HPl : Hid (P j = if wrongOneN ts f x.kind x.n x.s x.ids.length x.l.length ≠ 0 then wrongOneN ts f x.kind x.n x.s x.ids.length x.l.length
          else if f.kind ≠ 5 then 0 else wrongM ts k ((findM ts f.type).getD TypeM.zero) x) := by unfold Hid; rw [HPk.out, if_neg (by simp [ho])]
        have hob : (o != 0) = false := by simp [ho]
        clear HPk ho hpre
        go_wp2_with fail
        have hS4 : Ext W w3.drew := hS3.drew
        refine wp_region_X (fun w' => Ext W w') (fun _ => false) (by kernel_rfl) ?_
        refine wpAnyX_take (i := 0) (v := .agg #[.slice sb.a sb.len sb.cap]) rfl (by kernel_rfl) (by kernel_rfl) (fun _ _ _ h => h) (.inl ⟨rfl, fun w' hS => by simp [execOp, go_sem, hS.cell dB]⟩) (hS4) ?_
        simp only [Act.put, List.getElem_toArray, List.getElem_cons_zero, List.getElem_cons_succ, List.setIfInBounds_toArray, List.set_cons_succ, List.set_cons_zero]
        refine wpAnyX_take (i := 1) (v := .agg #[.int .i64 f.id, .string f.name, .string f.type, .int .i64 f.kind, .int .i64 f.rule]) rfl (by kernel_rfl) (by kernel_rfl) (fun _ _ _ h => h) (.inl ⟨rfl, fun w' hS => by simp [execOp, go_sem, hS.cell f0, hS.cell f1, hS.cell f2, hS.cell f3, hS.cell f4]⟩) (hS4) ?_
        simp only [Act.put, List.getElem_toArray, List.getElem_cons_zero, List.getElem_cons_succ, List.setIfInBounds_toArray, List.set_cons_succ, List.set_cons_zero]
        refine wpAnyX_take (i := 2) (v := .pointer (some ⟨w.heap.size + 1 + 1, 4, none⟩)) rfl (by kernel_rfl) (by kernel_rfl) (fun _ _ _ h => h) (.inl ⟨rfl, fun w' hS => by simp [execOp, go_sem]⟩) (hS4) ?_
        simp only [Act.put, List.getElem_toArray, List.getElem_cons_zero, List.getElem_cons_succ, List.setIfInBounds_toArray, List.set_cons_succ, List.set_cons_zero]
        refine wpAnyX_take (i := 3) (v := .slice (some ⟨xb, xo, none⟩) vl.length lc) rfl (by kernel_rfl) (by kernel_rfl) (fun _ _ _ h => h) (.inl ⟨rfl, fun w' hS => by simp [execOp, go_sem, hS.cell d4]⟩) (hS4) ?_
        simp only [Act.put, List.getElem_toArray, List.getElem_cons_zero, List.getElem_cons_succ, List.setIfInBounds_toArray, List.set_cons_succ, List.set_cons_zero]
        refine wpAnyX_take (i := 4) (v := .int .i64 j) rfl (by kernel_rfl) (by kernel_rfl) (fun _ _ _ h => h) (.inl ⟨rfl, fun w' hS => by simp [execOp, go_sem]⟩) (hS4) ?_
        simp only [Act.put, List.getElem_toArray, List.getElem_cons_zero, List.getElem_cons_succ, List.setIfInBounds_toArray, List.set_cons_succ, List.set_cons_zero]
        refine wpAnyX_take (i := 5) (v := .pointer (some ⟨xb, xo + j * 5, none⟩)) rfl (by kernel_rfl) (by kernel_rfl) (fun _ _ _ h => h) (.inl ⟨rfl, fun w' hS => by simp [execOp, go_sem, hjl, hlt2]⟩) (hS4) ?_
        simp only [Act.put, List.getElem_toArray, List.getElem_cons_zero, List.getElem_cons_succ, List.setIfInBounds_toArray, List.set_cons_succ, List.set_cons_zero]
        refine wpAnyX_take (i := 6) (v := .agg #[.int .i64 x.kind, .int .i64 x.n, .string x.s, .slice xia x.ids.length xic, .slice xla x.l.length xlc]) rfl (by kernel_rfl) (by kernel_rfl) (fun _ _ _ h => h) (.inl ⟨rfl, fun w' hS => by simp [execOp, go_sem, hS.cell e0, hS.cell e1, hS.cell e2, hS.cell e3, hS.cell e4]⟩) (hS4) ?_
        simp only [Act.put, List.getElem_toArray, List.getElem_cons_zero, List.getElem_cons_succ, List.setIfInBounds_toArray, List.set_cons_succ, List.set_cons_zero]
        refine wpAnyX_one (j := 7) rfl (by kernel_rfl) rfl fun K hK => ?_
        go_wp2_with fail
        refine (wrongOne_any sb ts f x.kind x.n x.s ⟨xia, x.ids.length, xic⟩ ⟨xla, x.l.length, xlc⟩ w3.drew ((unhide Hb).ext (hEW.trans hS4)) (unhide Hn) hp1 hp2 hp3).mono ?_
        rintro e w4 ⟨rfl, hx4⟩
        have hS5 : Ext W w4 := hS4.trans hx4
        go_wp2
        refine hK.out _ _ (hS5) ?_
        clear hK K
        refine wpAnyX_one (j := 8) rfl (by kernel_rfl) rfl fun K hK => ?_
        go_wp2
        refine hK.out _ _ (hS5) ?_
        clear hK K
        refine wpAnyX_end [] [] rfl (by intro j i hj; simp at hj) (by kernel_rfl) (by intro i hi; simp at hi) fun K hK => ?_
        go_wp2
        refine hK.out _ _ ?_
        clear hK K
        generalize wrongOneN ts f x.kind x.n x.s x.ids.length x.l.length = o2 at *
        by_cases ho : o2 = 0
        case neg =>
          have Hr : Hid (R = o2) := unhide bad o2 ho (by rw [HPl.out, if_pos ho])
          have hob2 : (o2 != 0) = true := by simpa using ho
          clear E2 HPl hfe bad good
          go_wp2
          go_ret
          exact ⟨ret_int (unhide Hr).symm, hEW.trans hS5⟩
        have HPm : Hid (P j = if f.kind ≠ 5 then 0 else wrongM ts k ((findM ts f.type).getD TypeM.zero) x) := by unfold Hid; rw [HPl.out, if_neg (by simp [ho])]
        have hob2 : (o2 != 0) = false := by simp [ho]
        clear HPl ho
        have k3 := hS5.cell f3
        by_cases hk5 : f.kind = 5
        case neg =>
          have Hg := unhide good (by rw [HPm.out, if_pos hk5])
          have HG := hide Hg
          have hkb : (f.kind != 5) = true := by simpa using hk5
          clear E2 HPm hfe bad good Hg hk5
          go_wp2
          exact ⟨⟨j + 1, by omega, by go_num, unhide HG, hXW.trans hS5⟩, by simp [intOf]; omega⟩
        have HPn : Hid (P j = wrongM ts k ((findM ts f.type).getD TypeM.zero) x) := by unfold Hid; rw [HPm.out, if_neg (by simp [hk5])]
        have hkb : (f.kind != 5) = false := by simp [hk5]
        clear HPm hk5
        go_wp2_with fail
        have hS6 : Ext W w4.drew := hS5.drew
        refine wp_region_X (fun w' => Ext W w') (fun _ => false) (by kernel_rfl) ?_
        refine wpAnyX_take (i := 0) (v := .agg #[.slice sb.a sb.len sb.cap]) rfl (by kernel_rfl) (by kernel_rfl) (fun _ _ _ h => h) (.inl ⟨rfl, fun w' hS => by simp [execOp, go_sem, hS.cell dB]⟩) (hS6) ?_
        simp only [Act.put, List.getElem_toArray, List.getElem_cons_zero, List.getElem_cons_succ, List.setIfInBounds_toArray, List.set_cons_succ, List.set_cons_zero]
        refine wpAnyX_take (i := 1) (v := .agg #[.slice sb.a sb.len sb.cap]) rfl (by kernel_rfl) (by kernel_rfl) (fun _ _ _ h => h) (.inl ⟨rfl, fun w' hS => by simp [execOp, go_sem, hS.cell dB]⟩) (hS6) ?_
        simp only [Act.put, List.getElem_toArray, List.getElem_cons_zero, List.getElem_cons_succ, List.setIfInBounds_toArray, List.set_cons_succ, List.set_cons_zero]
        refine wpAnyX_take (i := 2) (v := .agg #[.int .i64 f.id, .string f.name, .string f.type, .int .i64 f.kind, .int .i64 f.rule]) rfl (by kernel_rfl) (by kernel_rfl) (fun _ _ _ h => h) (.inl ⟨rfl, fun w' hS => by simp [execOp, go_sem, hS.cell f0, hS.cell f1, hS.cell f2, hS.cell f3, hS.cell f4]⟩) (hS6) ?_
        simp only [Act.put, List.getElem_toArray, List.getElem_cons_zero, List.getElem_cons_succ, List.setIfInBounds_toArray, List.set_cons_succ, List.set_cons_zero]
        refine wpAnyX_take (i := 4) (v := .pointer (some ⟨w.heap.size + 1 + 1, 4, none⟩)) rfl (by kernel_rfl) (by kernel_rfl) (fun _ _ _ h => h) (.inl ⟨rfl, fun w' hS => by simp [execOp, go_sem]⟩) (hS6) ?_
        simp only [Act.put, List.getElem_toArray, List.getElem_cons_zero, List.getElem_cons_succ, List.setIfInBounds_toArray, List.set_cons_succ, List.set_cons_zero]
        refine wpAnyX_take (i := 5) (v := .slice (some ⟨xb, xo, none⟩) vl.length lc) rfl (by kernel_rfl) (by kernel_rfl) (fun _ _ _ h => h) (.inl ⟨rfl, fun w' hS => by simp [execOp, go_sem, hS.cell d4]⟩) (hS6) ?_
        simp only [Act.put, List.getElem_toArray, List.getElem_cons_zero, List.getElem_cons_succ, List.setIfInBounds_toArray, List.set_cons_succ, List.set_cons_zero]
        refine wpAnyX_take (i := 6) (v := .int .i64 j) rfl (by kernel_rfl) (by kernel_rfl) (fun _ _ _ h => h) (.inl ⟨rfl, fun w' hS => by simp [execOp, go_sem]⟩) (hS6) ?_
        simp only [Act.put, List.getElem_toArray, List.getElem_cons_zero, List.getElem_cons_succ, List.setIfInBounds_toArray, List.set_cons_succ, List.set_cons_zero]
        refine wpAnyX_take (i := 7) (v := .pointer (some ⟨xb, xo + j * 5, none⟩)) rfl (by kernel_rfl) (by kernel_rfl) (fun _ _ _ h => h) (.inl ⟨rfl, fun w' hS => by simp [execOp, go_sem, hjl, hlt2]⟩) (hS6) ?_
        simp only [Act.put, List.getElem_toArray, List.getElem_cons_zero, List.getElem_cons_succ, List.setIfInBounds_toArray, List.set_cons_succ, List.set_cons_zero]
        refine wpAnyX_take (i := 8) (v := .agg #[.int .i64 x.kind, .int .i64 x.n, .string x.s, .slice xia x.ids.length xic, .slice xla x.l.length xlc]) rfl (by kernel_rfl) (by kernel_rfl) (fun _ _ _ h => h) (.inl ⟨rfl, fun w' hS => by simp [execOp, go_sem, hS.cell e0, hS.cell e1, hS.cell e2, hS.cell e3, hS.cell e4]⟩) (hS6) ?_
        simp only [Act.put, List.getElem_toArray, List.getElem_cons_zero, List.getElem_cons_succ, List.setIfInBounds_toArray, List.set_cons_succ, List.set_cons_zero]
        refine wpAnyX_one (j := 3) rfl (by kernel_rfl) rfl fun K hK => ?_
        go_wp2_with fail
        refine (typeOf_any sb ts f _ ((unhide Hb).ext (hEW.trans hS6)) (unhide Hn)).mono ?_
        rintro e w5 ⟨tv5, rfl, htv5, hx5, _⟩
        have hS7 : Ext W w5 := hS6.trans hx5
        have Htv5 := hide htv5
        clear htv5
        go_wp2
        refine hK.out _ _ (hS7) ?_
        clear hK K
        refine wpAnyX_one (j := 9) rfl (by kernel_rfl) rfl fun K hK => ?_
        go_wp2_with fail
        refine (ih tv5 _ x ⟨xia, x.ids.length, xic⟩ ⟨xla, x.l.length, xlc⟩ _ ((unhide Hb).ext (hEW.trans hS7)) (unhide Htv5) (find_small (unhide Hn) f.type) hsx ((unhide Hxv).ext (hEW.trans hS7))).mono ?_
        rintro e w6 ⟨rfl, hx6⟩
        have hS8 : Ext W w6 := hS7.trans hx6
        go_wp2
        refine hK.out _ _ (hS8) ?_
        clear hK K
        refine wpAnyX_one (j := 10) rfl (by kernel_rfl) rfl fun K hK => ?_
        go_wp2
        refine hK.out _ _ (hS8) ?_
        clear hK K
        refine wpAnyX_end [] [] rfl (by intro j i hj; simp at hj) (by kernel_rfl) (by intro i hi; simp at hi) fun K hK => ?_
        go_wp2
        refine hK.out _ _ ?_
        clear hK K
        generalize wrongM ts k ((findM ts f.type).getD TypeM.zero) x = o3 at *
        by_cases ho : o3 = 0
        case neg =>
          have Hr : Hid (R = o3) := unhide bad o3 ho HPn.out
          have hob3 : (o3 != 0) = true := by simpa using ho
          clear E2 HPn hfe bad good
          go_wp2
          go_ret
          exact ⟨ret_int (unhide Hr).symm, hEW.trans hS8⟩
        have Hg := unhide good (by rw [HPn.out, ho])
        have HG := hide Hg
        have hob3 : (o3 != 0) = false := by simp [ho]
        clear E2 HPn hfe bad good Hg ho
        go_wp2
        exact ⟨⟨j + 1, by omega, by go_num, unhide HG, hXW.trans hS8⟩, by simp [intOf]; omega⟩
      · have hz0 : firstE P 0 vids.length = 0 := by rw [hfe, show vids.length - j = 0 by omega]; rfl
        have E3 : Hid (R = if lacksB t vids = true then 3 else 0) := by unfold Hid; rw [unhide E2, if_neg (by simp [hz0])]
        clear E2 hz0 hfe
        obtain ⟨s0, s1, s2, s3, s4⟩ : wr.cell? ⟨w.heap.size + 1, 0, none⟩ = some (.string tv.name) ∧ wr.cell? ⟨w.heap.size + 1, 1, none⟩ = some (.bool tv.enum) ∧ wr.cell? ⟨w.heap.size + 1, 2, none⟩ = some (.slice tv.fields.a tv.fields.len tv.fields.cap) ∧ wr.cell? ⟨w.heap.size + 1, 3, none⟩ = some (.slice tv.gone.a tv.gone.len tv.gone.cap) ∧ wr.cell? ⟨w.heap.size + 1, 4, none⟩ = some (.slice tv.items.a tv.items.len tv.items.cap) := ⟨hxr.cell t0, hxr.cell t1, hxr.cell t2, hxr.cell t3, hxr.cell t4⟩
        have u3 := hxr.cell v3
        go_wp2_with fail
        refine (lacksOne_any tv t ⟨ia, vids.length, ic⟩ vids _ ((unhide Ht).ext hEr) ((unhide Hids).ext hEr) (unhide Hts).fields hin).mono ?_
        rintro e w2 ⟨rfl, hx2⟩
        cases hlk : lacksB t vids
        · have Hr : Hid (R = 0) := by unfold Hid; rw [unhide E3, hlk]; rfl
          clear E3
          go_wp2
          go_ret
          exact ⟨ret_int (unhide Hr).symm, hEr.trans hx2⟩
        · have Hr : Hid (R = 3) := by unfold Hid; rw [unhide E3, hlk]; rfl
          clear E3
          go_wp2
          go_ret
          exact ⟨ret_int (unhide Hr).symm, hEr.trans hx2⟩
end Go.Proofs.YtmdpdgldmedebaaGreatDoor

namespace Go.Proofs.YtmdpdgldmedebaaGreatDoor
set_option linter.unusedSimpArgs false
set_option linter.unusedVariables false
open Go.RowKit

def typedM (ts : BookM) (name : ByteArray) (K : Nat) (v : ValueM) : Int := if msgE ts name ≠ 0 then msgE ts name else if largeB K v = true then 7 else wrongM ts K (msgT ts name) v
theorem msg_good {ts : BookM} {name : ByteArray} (h : msgE ts name = 0) : goodM ts = 0 ∧ findM ts name = some (msgT ts name) ∧ (msgT ts name).enum = false := by
  by_cases hg : goodM ts = 0
  · cases hf : findM ts name with
    | none => rw [(msgE_none hg (by rw [hf]; exact .inl rfl)).1] at h; cases h
    | some t =>
      cases he : t.enum
      · have := (msgE_ok (name := name) hg (by rw [hf]; rfl) (by rw [hf]; exact he)).2
        rw [hf] at this
        refine ⟨hg, ?_, ?_⟩
        · rw [this]; rfl
        · rw [this]; exact he
      · rw [(msgE_none hg (by rw [hf]; exact .inr he)).1] at h; cases h
  · rw [(msgE_bad hg).1] at h; cases h
theorem msg_small {ts : BookM} {name : ByteArray} (h : msgE ts name = 0) : ts.Small ∧ (msgT ts name).Small := by
  obtain ⟨h1, h2, _⟩ := msg_good h
  have := good_small h1
  exact ⟨this, this.2 _ (findM_mem h2)⟩

set_option maxHeartbeats 3200000 in
theorem typed_any (sb : SV) (ts : BookM) (name : ByteArray) (K : Nat) (v : ValueM) (ids l : SV) (w : World) (hb : BookAt w sb ts) (hw : WordsAt w) (hn : ts.Fits) (hsv : SmallV K v) (hc : cntM K v ≤ 1048576)
    (hv : ValueAt K w [.int .i64 v.kind, .int .i64 v.n, .string v.s, .slice ids.a ids.len ids.cap, .slice l.a l.len l.cap] v) :
    Calls Tryz.prog 15 #[.agg #[.slice sb.a sb.len sb.cap], .string name, .agg #[.int .i64 v.kind, .int .i64 v.n, .string v.s, .slice ids.a ids.len ids.cap, .slice l.a l.len l.cap]] w fun e w' => e = .returned (.int .i64 (typedM ts name K v)) ∧ Ext w w' := by
  obtain ⟨w0, hw0⟩ : ∃ w0, w0 = (w.alloc (.cells #[.slice sb.a sb.len sb.cap] 24)).alloc (.cells #[.int .i64 v.kind, .int .i64 v.n, .string v.s, .slice ids.a ids.len ids.cap, .slice l.a l.len l.cap] 28) := ⟨_, rfl⟩
  obtain ⟨hx0, hz, r0, r1⟩ := heaps2 hw0
  have HW0 := hide hw0
  clear hw0
  have b0 : w0.cell? ⟨w.heap.size, 0, none⟩ = some (.slice sb.a sb.len sb.cap) := cell_of_row _ _ 0 _ _ _ r0
  obtain ⟨v0, v1, v2, v3, v4, _⟩ := row5 r1
  obtain ⟨R, hR⟩ : ∃ R, R = typedM ts name K v := ⟨_, rfl⟩
  rw [← hR]
  have E : Hid (R = if msgE ts name ≠ 0 then msgE ts name else if largeB K v = true then 7 else wrongM ts K (msgT ts name) v) := hR
  have Hb := hide (hb.ext hx0)
  have Hw := hide (hw.ext hx0)
  have Hv := hide (hv.ext hx0)
  clear hR hb hw hv
  go_enter Tryz.func15, Tryz.ntmps15
  go_wp2_with fail
  rw [← unhide HW0]
  refine (messageOf_any sb ts name w0 (unhide Hb) (unhide Hw) hn).mono ?_
  rintro e w1 ⟨tv, rfl, htv, hx1, _⟩
  have hE1 := hx0.trans hx1
  have Htv := hide htv
  have HS := hide (@msg_small ts name)
  clear htv
  by_cases hm : msgE ts name = 0
  case neg =>
    have Hr : Hid (R = msgE ts name) := by unfold Hid; rw [E.out, if_pos hm]
    have hmb : (msgE ts name != 0) = true := by simpa using hm
    clear E HS
    generalize msgE ts name = m at *
    go_wp2
    go_ret
    exact ⟨ret_int (unhide Hr).symm, hE1.alloc _⟩
  have E2 : Hid (R = if largeB K v = true then 7 else wrongM ts K (msgT ts name) v) := by unfold Hid; rw [E.out, if_neg (by simp [hm])]
  obtain ⟨hsm, htm⟩ := unhide HS hm
  have hmb : (msgE ts name != 0) = false := by simp [hm]
  clear E HS hm
  generalize msgE ts name = m at *
  generalize msgT ts name = T at *
  have d0 := hx1.cell b0
  obtain ⟨u0, u1, u2, u3, u4⟩ : w1.cell? ⟨w.heap.size + 1, 0, none⟩ = some (.int .i64 v.kind) ∧ w1.cell? ⟨w.heap.size + 1, 1, none⟩ = some (.int .i64 v.n) ∧ w1.cell? ⟨w.heap.size + 1, 2, none⟩ = some (.string v.s) ∧ w1.cell? ⟨w.heap.size + 1, 3, none⟩ = some (.slice ids.a ids.len ids.cap) ∧ w1.cell? ⟨w.heap.size + 1, 4, none⟩ = some (.slice l.a l.len l.cap) := ⟨hx1.cell v0, hx1.cell v1, hx1.cell v2, hx1.cell v3, hx1.cell v4⟩
  have z1 := lt_of_heap (hx1.heap r1)
  have hx2 : Ext w1 (w1.alloc (.cells #[.string tv.name, .bool tv.enum, .slice tv.fields.a tv.fields.len tv.fields.cap, .slice tv.gone.a tv.gone.len tv.gone.cap, .slice tv.items.a tv.items.len tv.items.cap] 50)) := (Ext.refl w1).alloc _
  have r2 : (w1.alloc (.cells #[.string tv.name, .bool tv.enum, .slice tv.fields.a tv.fields.len tv.fields.cap, .slice tv.gone.a tv.gone.len tv.gone.cap, .slice tv.items.a tv.items.len tv.items.cap] 50)).heap[w1.heap.size]? = some (.cells #[.string tv.name, .bool tv.enum, .slice tv.fields.a tv.fields.len tv.fields.cap, .slice tv.gone.a tv.gone.len tv.gone.cap, .slice tv.items.a tv.items.len tv.items.cap] 50 (0, 0)) := heap_alloc_new _ _
  go_wp2_with fail
  refine (tooLarge_any K v ids l _ ((unhide Hv).ext (hx1.trans hx2)) hc).mono ?_
  rintro e w3 ⟨rfl, hx3⟩
  have hE3 := (hE1.trans hx2).trans hx3
  cases hl : largeB K v
  · have Hr : Hid (R = wrongM ts K T v) := by unfold Hid; rw [unhide E2, hl]; rfl
    have h13 := hx2.trans hx3
    have d0 := h13.cell d0
    obtain ⟨u0, u1, u2, u3, u4⟩ : w3.cell? ⟨w.heap.size + 1, 0, none⟩ = some (.int .i64 v.kind) ∧ w3.cell? ⟨w.heap.size + 1, 1, none⟩ = some (.int .i64 v.n) ∧ w3.cell? ⟨w.heap.size + 1, 2, none⟩ = some (.string v.s) ∧ w3.cell? ⟨w.heap.size + 1, 3, none⟩ = some (.slice ids.a ids.len ids.cap) ∧ w3.cell? ⟨w.heap.size + 1, 4, none⟩ = some (.slice l.a l.len l.cap) := ⟨h13.cell u0, h13.cell u1, h13.cell u2, h13.cell u3, h13.cell u4⟩
    obtain ⟨t0, t1, t2, t3, t4, _⟩ := row5 (hx3.heap r2)
    clear E2
    go_wp2_with fail
    refine (wrongMessage_any sb ts hsm K tv T v ids l w3 ((unhide Hb).ext (hx1.trans h13)) ((unhide Htv).ext h13) htm hsv ((unhide Hv).ext (hx1.trans h13))).mono ?_
    rintro e w4 ⟨rfl, hx4⟩
    rw [← unhide Hr]
    go_wp2
    go_ret
    exact ⟨rfl, hE3.trans hx4⟩
  · have Hr : Hid (R = 7) := by unfold Hid; rw [unhide E2, hl]; rfl
    clear E2
    go_wp2
    go_ret
    exact ⟨ret_int (unhide Hr).symm, hE3⟩
end Go.Proofs.YtmdpdgldmedebaaGreatDoor

