import Derived.Test.YtmdpdgldmedebaaGreatDoorM37
namespace Go.Proofs.YtmdpdgldmedebaaGreatDoor
set_option linter.unusedSimpArgs false
set_option linter.unusedVariables false
set_option linter.unusedSimpArgs false
set_option linter.unusedVariables false
open Go.RowKit

theorem field_kind {ts : BookM} (hg : goodM ts = 0) {name : ByteArray} {id : Int} {f : FieldM} (h : fieldM ((findM ts name).getD TypeM.zero) id = some f) : (1 ≤ f.kind ∧ f.kind ≤ 5) ∧ f.id = id := by
  have hm := field_mem h
  have hid : f.id = id := by
    have := List.find?_some h
    simpa using this
  refine ⟨?_, hid⟩
  cases hf : findM ts name with
  | none => rw [hf] at hm; cases hm
  | some t => rw [hf] at hm; exact (lrF_good hg (findM_mem hf) hm).1
theorem order_first (f : FieldM) (l : List Int) (h : l.length = 0) : orderN f l = 0 := by unfold orderN; rw [if_pos h]
theorem order_next (f : FieldM) (l : List Int) (j : Nat) (h0 : 0 < j) (hj : j < l.length) (pv : Int) (hp : l[j - 1]? = some pv) :
    orderN f (l.take j) = if f.id < pv then 1 else if f.id = pv ∧ f.rule ≠ 3 then 4 else 0 := by
  have hl : (l.take j).length = j := by rw [List.length_take]; omega
  unfold orderN
  rw [hl, if_neg (by omega)]
  have hg : (l.take j).getD (j - 1) 0 = pv := by
    unfold List.getD
    rw [List.getElem?_take, if_pos (by omega), hp]; rfl
  rw [hg]
  by_cases h1 : f.id < pv
  · rw [if_pos h1, if_pos h1]
  · rw [if_neg h1, if_neg h1]
    by_cases h2 : f.id = pv
    · simp [h2]
    · rw [if_neg (fun h => h2 h.1.symm), if_neg (fun h => h2 h.1)]
theorem filter_none (l : List Int) (x : Int) : ((l.filter (· == x)).length = 0) ↔ l.contains x = false := by
  rw [List.length_eq_zero_iff, List.filter_eq_nil_iff]
  constructor
  · intro h
    cases hc : l.contains x
    · rfl
    · rw [List.contains_iff_mem] at hc
      exact absurd (by simp) (h x hc)
  · intro h y hy he
    have : y = x := by simpa using he
    subst this
    rw [← List.contains_iff_mem, h] at hy
    cases hy

set_option maxHeartbeats 12800000 in
set_option maxRecDepth 10000 in
theorem inside_any (sb : SV) (ts : BookM) (hn : ts.Small) (hg : goodM ts = 0) : ∀ (k : Nat) (name : ByteArray) (v : ValueM) (ids l : SV) (w : World), BookAt w sb ts → SmallV k v →
    ValueAt k w [.int .i64 v.kind, .int .i64 v.n, .string v.s, .slice ids.a ids.len ids.cap, .slice l.a l.len l.cap] v →
    Calls Tryz.prog 36 #[.agg #[.slice sb.a sb.len sb.cap], .string name, .agg #[.int .i64 v.kind, .int .i64 v.n, .string v.s, .slice ids.a ids.len ids.cap, .slice l.a l.len l.cap]] w fun e w' => e = .returned (.int .i64 (wrongM ts k ((findM ts name).getD TypeM.zero) v)) ∧ Ext w w' := by
  intro k
  induction k with
  | zero => intro _ _ _ _ _ _ _ h; exact h.elim
  | succ k ih =>
    intro name v ids l w hb hsv hv
    obtain ⟨ids', l', he, hids, hl, hiok, hlok⟩ := hv
    simp only [List.cons.injEq, Value.slice.injEq, and_true, true_and] at he
    obtain ⟨⟨i1, i2, i3⟩, l1, l2, l3⟩ := he
    obtain rfl : l = l' := by cases l; cases l'; simp_all
    obtain rfl : ids = ids' := by cases ids; cases ids'; simp_all
    clear i1 i2 i3 l1 l2 l3
    obtain ⟨hsz, hin, hln, hall⟩ := hsv
    obtain ⟨ia, il, ic⟩ := ids
    obtain ⟨la, ll, lc⟩ := l
    have eil := hids.1
    have ell := hl.1
    simp only at eil ell
    subst eil ell
    have hts : ((findM ts name).getD TypeM.zero).Small := find_small hn name
    have hfk := hide (fun id f => field_kind hg (name := name) (id := id) (f := f))
    obtain ⟨t, ht⟩ : ∃ t, t = (findM ts name).getD TypeM.zero := ⟨_, rfl⟩
    rw [← ht] at hts hfk
    rw [← ht]
    obtain ⟨R, hR⟩ : ∃ R, R = wrongM ts (k + 1) t v := ⟨_, rfl⟩
    rw [← hR]
    have E : Hid (R = if v.kind ≠ 2 then 5 else if v.l.length ≠ v.ids.length ∨ oneKindB v.kind v.n v.s v.ids.length v.l.length = false then 1
      else if firstE (wrongAt ts (wrongM ts k) t v) 0 v.ids.length ≠ 0 then firstE (wrongAt ts (wrongM ts k) t v) 0 v.ids.length else if lacksB t v.ids = true then 3 else 0) := hR
    clear hR
    have HP : Hid (∀ i, wrongAt ts (wrongM ts k) t v i = wrongAt ts (wrongM ts k) t v i) := fun _ => rfl
    have Hv : Hid (∀ i (h : i < v.ids.length) (h' : i < v.l.length), wrongAt ts (wrongM ts k) t v i =
      if (fieldM t v.ids[i]).isSome = false then 3
      else if orderN ((fieldM t v.ids[i]).getD FieldM.zero) (v.ids.take i) ≠ 0 then orderN ((fieldM t v.ids[i]).getD FieldM.zero) (v.ids.take i)
      else if wrongOneN ts ((fieldM t v.ids[i]).getD FieldM.zero) v.l[i].kind v.l[i].n v.l[i].s v.l[i].ids.length v.l[i].l.length ≠ 0 then wrongOneN ts ((fieldM t v.ids[i]).getD FieldM.zero) v.l[i].kind v.l[i].n v.l[i].s v.l[i].ids.length v.l[i].l.length
      else if ((fieldM t v.ids[i]).getD FieldM.zero).kind ≠ 5 then 0
      else wrongM ts k ((findM ts ((fieldM t v.ids[i]).getD FieldM.zero).type).getD TypeM.zero) v.l[i]) := fun i h h' => by
        unfold wrongAt
        rw [show v.ids.getD i 0 = v.ids[i] by simp [List.getD, h], show v.l.getD i ValueM.zero = v.l[i] by simp [List.getD, h']]
    generalize wrongAt ts (wrongM ts k) t v = P at *
    clear HP
    obtain ⟨vk, vn, vs, vids, vl⟩ := v
    simp only at E Hv hids hl hsz hin hln hall hiok hlok
    show Calls Tryz.prog 36 #[.agg #[.slice sb.a sb.len sb.cap], .string name, .agg #[.int .i64 vk, .int .i64 vn, .string vs, .slice ia vids.length ic, .slice la vl.length lc]] w _
    have Hn := hide hn
    have Ht := hide ht
    have Hts := hide hts
    have Hids := hide hids
    have Hl := hide hl
    have Hall := hide hall
    obtain ⟨w0, hw0⟩ : ∃ w0, w0 = (w.alloc (.cells #[.slice sb.a sb.len sb.cap] 24)).alloc (.cells #[.int .i64 vk, .int .i64 vn, .string vs, .slice ia vids.length ic, .slice la vl.length lc] 28) := ⟨_, rfl⟩
    obtain ⟨hx0, hz, r0, r1⟩ := heaps2 hw0
    have HT := hide (refTypeOf_any sb ts name w0 (hb.ext hx0) hn.1)
    rw [← unhide Ht] at HT
    have Hb := hide hb
    have HW0 := hide hw0
    have b0 : w0.cell? ⟨w.heap.size, 0, none⟩ = some (.slice sb.a sb.len sb.cap) := cell_of_row _ _ 0 _ _ _ r0
    obtain ⟨v0, v1, v2, v3, v4, vf⟩ := row5 r1
    clear hn hb ht hts hids hl hall hw0 vf hg
    have hii : vids.length ≤ 9223372036854775807 := by omega
    have hli : vl.length ≤ 9223372036854775807 := by omega
    go_enter Tryz.func36, Tryz.ntmps36
    go_wp2_with fail
    rw [← unhide HW0]
    refine (unhide HT).mono ?_
    rintro e w1 ⟨tv, rfl, htv, hx1⟩
    obtain ⟨W1, hW1⟩ : ∃ W1, W1 = w1.alloc (.cells #[.string tv.name, .bool tv.enum, .slice tv.fields.a tv.fields.len tv.fields.cap, .slice tv.gone.a tv.gone.len tv.gone.cap, .slice tv.items.a tv.items.len tv.items.cap] 50) := ⟨_, rfl⟩
    have hxW1 : Ext w1 W1 := by rw [hW1]; exact (Ext.refl w1).alloc _
    have rT : W1.heap[w1.heap.size]? = some (.cells #[.string tv.name, .bool tv.enum, .slice tv.fields.a tv.fields.len tv.fields.cap, .slice tv.gone.a tv.gone.len tv.gone.cap, .slice tv.items.a tv.items.len tv.items.cap] 50 (0, 0)) := by rw [hW1]; exact heap_alloc_new _ _
    have x01 := hx1.trans hxW1
    have hE1 : Ext w W1 := hx0.trans x01
    have Htv := hide (htv.ext x01)
    have zT := lt_of_heap rT
    have zB := World.block_lt_of_cell? w1 _ (hx1.cell b0)
    have zV := World.block_lt_of_cell? w1 _ (hx1.cell v0)
    have y0 := hx1.cell v0
    have y1 := hx1.cell v1
    have y2 := hx1.cell v2
    have y3 := hx1.cell v3
    have y4 := hx1.cell v4
    have HW1 := hide hW1
    clear hW1 htv HT
    by_cases hk2 : vk = 2
    case neg =>
      have Hr : Hid (R = 5) := by unfold Hid; rw [E.out, if_pos hk2]
      clear E
      go_wp2
      go_ret
      exact ⟨ret_int (unhide Hr).symm, (unhide HW1) ▸ hE1⟩
    subst hk2
    by_cases hlen : vl.length = vids.length
    case neg =>
      have Hr : Hid (R = 1) := by unfold Hid; rw [E.out, if_neg (by simp), if_pos (.inl hlen)]
      have hli2 : ¬ (vids.length : Int) = (vl.length : Int) := by omega
      clear E
      go_wp2
      go_ret
      exact ⟨ret_int (unhide Hr).symm, (unhide HW1) ▸ hE1⟩
    have Hlen := hide hlen
    have hli2 : ((vids.length : Int) != (vl.length : Int)) = false := by simp; omega
    by_cases hn0 : vn = 0
    case neg =>
      have Hr : Hid (R = 1) := by unfold Hid; rw [E.out, if_neg (by simp), if_pos (.inr (by unfold oneKindB; simp [hn0]))]
      have hnb : (vn != 0) = true := by simpa using hn0
      clear E hlen
      go_wp2
      go_ret
      exact ⟨ret_int (unhide Hr).symm, (unhide HW1) ▸ hE1⟩
    subst hn0
    by_cases hs0 : vs.toList = []
    case neg =>
      have hsB : vs.toList.isEmpty = false := by cases h : vs.toList.isEmpty; rfl; exact absurd (List.isEmpty_iff.1 h) hs0
      have Hr : Hid (R = 1) := by unfold Hid; rw [E.out, if_neg (by simp), if_pos (.inr (by unfold oneKindB; simp [hsB]))]
      clear E hlen hsB
      go_wp2_with fail
      all_goals first
        | (go_ret; exact ⟨ret_int (unhide Hr).symm, (unhide HW1) ▸ hE1⟩)
        | (exfalso; simp_all; done)
    obtain rfl : vs = ⟨#[]⟩ := bytes_ext (by rw [← bytes_toList, hs0])
    have E2 : Hid (R = if firstE P 0 vids.length ≠ 0 then firstE P 0 vids.length else if lacksB t vids = true then 3 else 0) := by
      unfold Hid; rw [E.out, if_neg (by simp), if_neg (by simp [oneKindB, hs0]; exact (unhide Hlen))]
    clear E hs0 hlen
    go_wp2
    rw [← unhide HW1]
    clear y0 y1 y2 y3 y4 zT zB zV
    have yB := x01.cell b0
    have y3 := x01.cell v3
    have y4 := x01.cell v4
    have zW := lt_of_heap rT
    go_loopw [45] (fun i wr => ∃ j : Nat, j ≤ vids.length ∧ i = .int .i64 j ∧ firstE P 0 vids.length = firstE P j (vids.length - j) ∧ Ext W1 wr) (fun i _ => vids.length - (intOf i).toNat)
    case atStart => exact ⟨0, by omega, rfl, by simp, Ext.refl _⟩
    case round =>
      obtain ⟨j, hj, rfl, hfe, hxr⟩ := hrel
      have hEr : Ext w wr := hE1.trans hxr
      have d3 := hxr.cell y3
      have d4 := hxr.cell y4
      have dB := hxr.cell yB
      have rTr := hxr.heap rT
      obtain ⟨s0, s1, s2, s3, s4, _⟩ := row5 rTr
      by_cases hlt : j < vids.length
      · have hlt2 : j < vl.length := by rw [unhide Hlen]; exact hlt
        obtain ⟨ib, io, cs, hia, hr, rfl⟩ := (unhide Hids).2 j vids[j] (by simp [hlt])
        obtain ⟨xb, xo, cs2, hla, hr2, hxv⟩ := (unhide Hl).2 j vl[j] (by simp [hlt2])
        simp only at hia hla
        subst hia hla
        obtain ⟨xi, xl, rfl, hxi, hxl, hxio, hxlo⟩ := hxv.opens
        have ci := hEr.cell (hr 0 _ rfl)
        rw [Nat.mul_one, Nat.add_zero] at ci
        have cp : 0 < j → ∃ pv : Int, vids[j - 1]? = some pv ∧ wr.cell? ⟨ib, io + (j - 1), none⟩ = some (.int .i64 pv) := fun h0 => by
          have hj1 : j - 1 < vids.length := by omega
          obtain ⟨b', o', cs', h1', h2', h3'⟩ := (unhide Hids).2 (j - 1) vids[j - 1] (List.getElem?_eq_getElem hj1)
          cases h1'
          subst h3'
          have := hEr.cell (h2' 0 _ rfl)
          rw [Nat.mul_one, Nat.add_zero] at this
          exact ⟨_, List.getElem?_eq_getElem hj1, this⟩
        obtain ⟨c0, c1, c2, c3, c4⟩ := range5 (hEr.range hr2)
        have hsx := unhide Hall vl[j] (List.getElem_mem hlt2)
        have HPj : Hid (P j = _) := unhide Hv j hlt hlt2
        have Hxv := hide hxv
        have hp1 : vl[j].s.size ≤ 1048576 := hsx.parts.1
        have hxi1 := hxi.1
        have hxl1 := hxl.1
        have hoF := hide (fun f h0 pv hp => order_next f vids j h0 hlt pv hp)
        generalize vids[j] = id at *
        generalize vl[j] = x at *
        obtain ⟨xia, xin, xic⟩ := xi
        obtain ⟨xla, xln, xlc⟩ := xl
        simp only at hxi1 hxl1 c3 c4 Hxv
        subst hxi1 hxl1
        have Hcp := hide cp
        have hji : (j : Int) < (vids.length : Int) := by omega
        have hjl : (j : Int) < (vl.length : Int) := by omega
        have HF := hide (fun w2 (hx : Ext wr w2) => refFieldIn_any tv t id w2 ((unhide Htv).ext (hxr.trans hx)) (unhide Hts).fields)
        have hfkk := unhide hfk id
        obtain ⟨fo, hfo⟩ : ∃ fo, fo = fieldM t id := ⟨_, rfl⟩
        rw [← hfo] at HF HPj hfkk
        obtain ⟨f, hf⟩ : ∃ f, f = fo.getD FieldM.zero := ⟨_, rfl⟩
        obtain ⟨fi, hfi⟩ : ∃ fi, fi = fo.isSome := ⟨_, rfl⟩
        rw [← hf, ← hfi] at HF HPj
        have hfgood : Hid (fi = true → (1 ≤ f.kind ∧ f.kind ≤ 5) ∧ f.id = id) := fun h => by
          rw [hfi] at h
          cases hfoo : fo with
          | none => rw [hfoo] at h; cases h
          | some y => rw [hf, hfoo]; exact hfkk y hfoo
        clear hr hr2 hxv hxi hxl hxio hxlo cp hfkk hfo hf hfi
        go_upto_region 9 with fail
        go_cut [10, 11] (fun s10 s11 wx => ∃ g : Nat, s10 = .pointer (some ⟨g, 0, none⟩) ∧ s11 = .bool fi ∧ wr.heap.size ≤ g ∧ Ext wr wx ∧ wx.heap[g]? = some (.cells #[.int .i64 f.id, .string f.name, .string f.type, .int .i64 f.kind, .int .i64 f.rule] 56 (0, 0)))
        case first =>
          rename_i J0 K0 hJ0 hK0
          refine wp_region_X (fun w' => Ext wr w') (fun _ => false) (by kernel_rfl) ?_
          obtain ⟨Wd, hWd⟩ : ∃ Wd, Wd = wr.drew := ⟨_, rfl⟩
          have hS0 : Ext wr Wd := by rw [hWd]; exact (Ext.refl wr).drew
          rw [← hWd]
          clear hWd
          refine wpAnyX_take (i := 0) (v := .agg #[.string tv.name, .bool tv.enum, .slice tv.fields.a tv.fields.len tv.fields.cap, .slice tv.gone.a tv.gone.len tv.gone.cap, .slice tv.items.a tv.items.len tv.items.cap]) rfl (by kernel_rfl) (by kernel_rfl) (fun _ _ _ h => h) (.inl ⟨rfl, fun w' hS => by simp [execOp, go_sem, hS.cell s0, hS.cell s1, hS.cell s2, hS.cell s3, hS.cell s4]⟩) (hS0) ?_
          simp only [Act.put, List.getElem_toArray, List.getElem_cons_zero, List.getElem_cons_succ, List.setIfInBounds_toArray, List.set_cons_succ, List.set_cons_zero]
          refine wpAnyX_take (i := 1) (v := .pointer (some ⟨w.heap.size + 1, 3, none⟩)) rfl (by kernel_rfl) (by kernel_rfl) (fun _ _ _ h => h) (.inl ⟨rfl, fun w' hS => by simp [execOp, go_sem]⟩) (hS0) ?_
          simp only [Act.put, List.getElem_toArray, List.getElem_cons_zero, List.getElem_cons_succ, List.setIfInBounds_toArray, List.set_cons_succ, List.set_cons_zero]
          refine wpAnyX_take (i := 2) (v := .slice (some ⟨ib, io, none⟩) vids.length ic) rfl (by kernel_rfl) (by kernel_rfl) (fun _ _ _ h => h) (.inl ⟨rfl, fun w' hS => by simp [execOp, go_sem, hS.cell d3]⟩) (hS0) ?_
          simp only [Act.put, List.getElem_toArray, List.getElem_cons_zero, List.getElem_cons_succ, List.setIfInBounds_toArray, List.set_cons_succ, List.set_cons_zero]
          refine wpAnyX_take (i := 3) (v := .int .i64 j) rfl (by kernel_rfl) (by kernel_rfl) (fun _ _ _ h => h) (.inl ⟨rfl, fun w' hS => by simp [execOp, go_sem]⟩) (hS0) ?_
          simp only [Act.put, List.getElem_toArray, List.getElem_cons_zero, List.getElem_cons_succ, List.setIfInBounds_toArray, List.set_cons_succ, List.set_cons_zero]
          refine wpAnyX_take (i := 4) (v := .pointer (some ⟨ib, io + j, none⟩)) rfl (by kernel_rfl) (by kernel_rfl) (fun _ _ _ h => h) (.inl ⟨rfl, fun w' hS => by simp [execOp, go_sem, hji, hlt]⟩) (hS0) ?_
          simp only [Act.put, List.getElem_toArray, List.getElem_cons_zero, List.getElem_cons_succ, List.setIfInBounds_toArray, List.set_cons_succ, List.set_cons_zero]
          refine wpAnyX_take (i := 5) (v := .int .i64 id) rfl (by kernel_rfl) (by kernel_rfl) (fun _ _ _ h => h) (.inl ⟨rfl, fun w' hS => by simp [execOp, go_sem, hS.cell ci]⟩) (hS0) ?_
          simp only [Act.put, List.getElem_toArray, List.getElem_cons_zero, List.getElem_cons_succ, List.setIfInBounds_toArray, List.set_cons_succ, List.set_cons_zero]
          refine wpAnyX_two (i := 6) (j := 10) rfl rfl (by kernel_rfl) rfl rfl (fun K hK => ?_) (fun K hK => ?_)
          · go_wp2_with fail
            refine (unhide HF Wd hS0).mono ?_
            rintro e W2 ⟨rfl, x2⟩
            have f2 : Ext wr W2 := hS0.trans x2
            go_wp2
            refine hK.out _ _ (f2) ?_
            clear hK K
            refine wpAnyX_take (i := 7) (v := .tuple #[.agg #[.int .i64 f.id, .string f.name, .string f.type, .int .i64 f.kind, .int .i64 f.rule], .bool fi]) rfl (by kernel_rfl) (by kernel_rfl) (fun _ _ _ h => h) (.inl ⟨rfl, fun w' hS => by simp [execOp, go_sem]⟩) (f2) ?_
            simp only [Act.put, List.getElem_toArray, List.getElem_cons_zero, List.getElem_cons_succ, List.setIfInBounds_toArray, List.set_cons_succ, List.set_cons_zero]
            refine wpAnyX_take (i := 8) (v := .agg #[.int .i64 f.id, .string f.name, .string f.type, .int .i64 f.kind, .int .i64 f.rule]) rfl (by kernel_rfl) (by kernel_rfl) (fun _ _ _ h => h) (.inl ⟨rfl, fun w' hS => by simp [execOp, go_sem]⟩) (f2) ?_
            simp only [Act.put, List.getElem_toArray, List.getElem_cons_zero, List.getElem_cons_succ, List.setIfInBounds_toArray, List.set_cons_succ, List.set_cons_zero]
            refine wpAnyX_take (i := 9) (v := .bool fi) rfl (by kernel_rfl) (by kernel_rfl) (fun _ _ _ h => h) (.inl ⟨rfl, fun w' hS => by simp [execOp, go_sem]⟩) (f2) ?_
            simp only [Act.put, List.getElem_toArray, List.getElem_cons_zero, List.getElem_cons_succ, List.setIfInBounds_toArray, List.set_cons_succ, List.set_cons_zero]
            refine wpAnyX_one (j := 10) rfl (by kernel_rfl) rfl fun K hK => ?_
            go_wp2
            refine hK.out _ _ (f2.alloc _) ?_
            clear hK K
            have rN0 : (W2.alloc (.cells #[.int .i64 0, .string ⟨#[]⟩, .string ⟨#[]⟩, .int .i64 0, .int .i64 0] 56)).heap[W2.heap.size]? = some (.cells #[.int .i64 0, .string ⟨#[]⟩, .string ⟨#[]⟩, .int .i64 0, .int .i64 0] 56 (0, 0)) := heap_alloc_new _ _
            obtain ⟨W3, hW3⟩ : ∃ X, X = W2.alloc (.cells #[.int .i64 0, .string ⟨#[]⟩, .string ⟨#[]⟩, .int .i64 0, .int .i64 0] 56) := ⟨_, rfl⟩
            have fW3 : Ext wr W3 := by rw [hW3]; exact (f2).alloc _
            have rW3 : W3.heap[W2.heap.size]? = some (.cells #[.int .i64 0, .string ⟨#[]⟩, .string ⟨#[]⟩, .int .i64 0, .int .i64 0] 56 (0, 0)) := by rw [hW3]; exact heap_alloc_new _ _
            have bW3 : wr.heap.size ≤ W2.heap.size := (f2).size
            rw [← hW3]
            clear hW3 rN0
            generalize W2.heap.size = g at rW3 bW3 ⊢
            obtain ⟨W6, hW6, r6, hx6, hk6, _⟩ := setN5 rW3 (.int .i64 f.id) (.string f.name) (.string f.type) (.int .i64 f.kind) (.int .i64 f.rule)
            have f6 := hx6 wr fW3 (by assumption)
            have HW6 := hide hW6
            obtain ⟨u0, u1, u2, u3, u4, uf⟩ := rowN5 rW3
            clear hW6 hx6 hk6
            refine wpAnyX_one (j := 11) rfl (by kernel_rfl) rfl fun K hK => ?_
            go_wp2
            rw [← unhide HW6]
            refine hK.out _ _ (f6) ?_
            clear hK K
            refine wpAnyX_take (i := 12) (v := .bool fi) rfl (by kernel_rfl) (by kernel_rfl) (fun _ _ _ h => h) (.inl ⟨rfl, fun w' hS => by simp [execOp, go_sem]⟩) (f6) ?_
            simp only [Act.put, List.getElem_toArray, List.getElem_cons_zero, List.getElem_cons_succ, List.setIfInBounds_toArray, List.set_cons_succ, List.set_cons_zero]
            refine wpAnyX_end [] [] rfl (by intro j i hj; simp at hj) (by kernel_rfl) (by intro i hi; simp at hi) fun K hK => ?_
            go_wp2
            refine hK.out _ _ ?_
            clear hK K
            first | refine Met.intro (hJ0 _ _ ?_) | refine hK0 _ _ (Met.intro (hJ0 _ _ ?_))
            (repeat apply Exists.intro)
            refine ⟨?rel, rfl⟩
            case rel => exact ⟨g, rfl, rfl, by assumption, f6, r6⟩
          · go_wp2
            refine hK.out _ _ (hS0.alloc _) ?_
            clear hK K
            have rN0 : (Wd.alloc (.cells #[.int .i64 0, .string ⟨#[]⟩, .string ⟨#[]⟩, .int .i64 0, .int .i64 0] 56)).heap[Wd.heap.size]? = some (.cells #[.int .i64 0, .string ⟨#[]⟩, .string ⟨#[]⟩, .int .i64 0, .int .i64 0] 56 (0, 0)) := heap_alloc_new _ _
            obtain ⟨W3, hW3⟩ : ∃ X, X = Wd.alloc (.cells #[.int .i64 0, .string ⟨#[]⟩, .string ⟨#[]⟩, .int .i64 0, .int .i64 0] 56) := ⟨_, rfl⟩
            have fW3 : Ext wr W3 := by rw [hW3]; exact (hS0).alloc _
            have rW3 : W3.heap[Wd.heap.size]? = some (.cells #[.int .i64 0, .string ⟨#[]⟩, .string ⟨#[]⟩, .int .i64 0, .int .i64 0] 56 (0, 0)) := by rw [hW3]; exact heap_alloc_new _ _
            have bW3 : wr.heap.size ≤ Wd.heap.size := (hS0).size
            rw [← hW3]
            clear hW3 rN0
            generalize Wd.heap.size = g at rW3 bW3 ⊢
            refine wpAnyX_one (j := 6) rfl (by kernel_rfl) rfl fun K hK => ?_
            go_wp2_with fail
            refine (unhide HF W3 fW3).mono ?_
            rintro e W4 ⟨rfl, x4⟩
            have f4 : Ext wr W4 := fW3.trans x4
            have rW4 := x4.heap rW3
            go_wp2
            refine hK.out _ _ (f4) ?_
            clear hK K
            refine wpAnyX_take (i := 7) (v := .tuple #[.agg #[.int .i64 f.id, .string f.name, .string f.type, .int .i64 f.kind, .int .i64 f.rule], .bool fi]) rfl (by kernel_rfl) (by kernel_rfl) (fun _ _ _ h => h) (.inl ⟨rfl, fun w' hS => by simp [execOp, go_sem]⟩) (f4) ?_
            simp only [Act.put, List.getElem_toArray, List.getElem_cons_zero, List.getElem_cons_succ, List.setIfInBounds_toArray, List.set_cons_succ, List.set_cons_zero]
            refine wpAnyX_take (i := 8) (v := .agg #[.int .i64 f.id, .string f.name, .string f.type, .int .i64 f.kind, .int .i64 f.rule]) rfl (by kernel_rfl) (by kernel_rfl) (fun _ _ _ h => h) (.inl ⟨rfl, fun w' hS => by simp [execOp, go_sem]⟩) (f4) ?_
            simp only [Act.put, List.getElem_toArray, List.getElem_cons_zero, List.getElem_cons_succ, List.setIfInBounds_toArray, List.set_cons_succ, List.set_cons_zero]
            refine wpAnyX_take (i := 9) (v := .bool fi) rfl (by kernel_rfl) (by kernel_rfl) (fun _ _ _ h => h) (.inl ⟨rfl, fun w' hS => by simp [execOp, go_sem]⟩) (f4) ?_
            simp only [Act.put, List.getElem_toArray, List.getElem_cons_zero, List.getElem_cons_succ, List.setIfInBounds_toArray, List.set_cons_succ, List.set_cons_zero]
            obtain ⟨W6, hW6, r6, hx6, hk6, _⟩ := setN5 rW4 (.int .i64 f.id) (.string f.name) (.string f.type) (.int .i64 f.kind) (.int .i64 f.rule)
            have f6 := hx6 wr f4 (by assumption)
            have HW6 := hide hW6
            obtain ⟨u0, u1, u2, u3, u4, uf⟩ := rowN5 rW4
            clear hW6 hx6 hk6
            refine wpAnyX_one (j := 11) rfl (by kernel_rfl) rfl fun K hK => ?_
            go_wp2
            rw [← unhide HW6]
            refine hK.out _ _ (f6) ?_
            clear hK K
            refine wpAnyX_take (i := 12) (v := .bool fi) rfl (by kernel_rfl) (by kernel_rfl) (fun _ _ _ h => h) (.inl ⟨rfl, fun w' hS => by simp [execOp, go_sem]⟩) (f6) ?_
            simp only [Act.put, List.getElem_toArray, List.getElem_cons_zero, List.getElem_cons_succ, List.setIfInBounds_toArray, List.set_cons_succ, List.set_cons_zero]
            refine wpAnyX_end [] [] rfl (by intro j i hj; simp at hj) (by kernel_rfl) (by intro i hi; simp at hi) fun K hK => ?_
            go_wp2
            refine hK.out _ _ ?_
            clear hK K
            first | refine Met.intro (hJ0 _ _ ?_) | refine hK0 _ _ (Met.intro (hJ0 _ _ ?_))
            (repeat apply Exists.intro)
            refine ⟨?rel, rfl⟩
            case rel => exact ⟨g, rfl, rfl, by assumption, f6, r6⟩
        case rest =>
          obtain ⟨g, rfl, rfl, hgz, hx2, rF⟩ := hcut
          rename World => wa
          have hE2 := hEr.trans hx2
          have hX2 := hxr.trans hx2
          cases fi
          · have HP3 : Hid (P j = 3) := by unfold Hid; rw [HPj.out, if_pos rfl]
            have Hfe : Hid (firstE P 0 vids.length = 3) := by
              unfold Hid; rw [hfe, firstE_bad (by omega) (by rw [HP3.out]; decide), HP3.out]
            have Hr : Hid (R = 3) := by unfold Hid; rw [unhide E2, Hfe.out]; rfl
            clear E2 Hfe HP3 HPj hfe
            go_wp2
            go_ret
            exact ⟨ret_int (unhide Hr).symm, hE2⟩
          obtain ⟨hfk1, hfid⟩ := unhide hfgood rfl
          have HPk : Hid (P j = if orderN f (vids.take j) ≠ 0 then orderN f (vids.take j)
            else if wrongOneN ts f x.kind x.n x.s x.ids.length x.l.length ≠ 0 then wrongOneN ts f x.kind x.n x.s x.ids.length x.l.length
            else if f.kind ≠ 5 then 0
            else wrongM ts k ((findM ts f.type).getD TypeM.zero) x) := by
              unfold Hid; rw [HPj.out, if_neg (by simp)]
          clear HPj hfgood
          have hO : ∃ pv : Int, (0 < j → wr.cell? ⟨ib, io + (j - 1), none⟩ = some (.int .i64 pv)) ∧ orderN f (vids.take j) = if (decide (0 < j) && decide (id < pv)) = true then 1 else if (decide (0 < j) && (decide (id = pv) && decide (f.rule ≠ 3))) = true then 4 else 0 := by
            by_cases hj0 : 0 < j
            · obtain ⟨pv, h1, h2⟩ := unhide Hcp hj0
              refine ⟨pv, fun _ => h2, ?_⟩
              rw [unhide hoF f hj0 pv h1, hfid]
              simp [hj0]
            · exact ⟨0, fun h => absurd h hj0, by rw [order_first _ _ (by simp; omega)]; simp [hj0]⟩
          clear hfid
          obtain ⟨pv, hpv, hoN⟩ := hO
          have Hpv := hide hpv
          have HoN := hide hoN
          have k3 := hx2.cell d3
          have k4 := hx2.cell d4
          have kB := hx2.cell dB
          have ki := hx2.cell ci
          obtain ⟨e0, e1, e2, e3, e4⟩ : wa.cell? ⟨xb, xo + j * 5, none⟩ = some (.int .i64 x.kind) ∧ wa.cell? ⟨xb, xo + j * 5 + 1, none⟩ = some (.int .i64 x.n) ∧ wa.cell? ⟨xb, xo + j * 5 + 2, none⟩ = some (.string x.s) ∧ wa.cell? ⟨xb, xo + j * 5 + 3, none⟩ = some (.slice xia x.ids.length xic) ∧ wa.cell? ⟨xb, xo + j * 5 + 4, none⟩ = some (.slice xla x.l.length xlc) := ⟨hx2.cell c0, hx2.cell c1, hx2.cell c2, hx2.cell c3, hx2.cell c4⟩
          obtain ⟨f0, f1, f2, f3, f4, _⟩ := row5 rF
          have hwr : 0 < j → IntKind.i64.wrap ((j : Int) - 1) = ((j - 1 : Nat) : Int) := fun h => by rw [IntKind.wrap_i64]; omega
          have Hwr := hide hwr
          clear hpv hoN hwr hoF Hcp c0 c1 c2 c3 c4 d3 d4 dB ci s0 s1 s2 s3 s4
          go_upto_region 12 with fail
          go_cut [75] (fun s75 wx => ∃ o1 : Bool, s75 = .bool o1 ∧ Hid (o1 = (decide (0 < j) && decide (id < pv))) ∧ Ext wa wx)
          case first =>
            rename_i J0 K0 hJ0 hK0
            by_cases hj0 : 0 < j
            · have hp1 := hx2.cell (unhide Hpv hj0)
              have hw1 := unhide Hwr hj0
              have hl1 : j - 1 < vids.length := by omega
              have hj0i : (0 : Int) < (j : Int) := by omega
              go_quiet (fail)
              first | refine Met.intro (hJ0 _ _ ?_) | refine hK0 _ _ (Met.intro (hJ0 _ _ ?_))
              (repeat apply Exists.intro)
              refine ⟨?rel, rfl⟩
              case rel => exact ⟨_, rfl, by unfold Hid; simp [hj0], by first | exact (Ext.refl _).drewN _ | exact (Ext.refl _).drew | exact Ext.refl _⟩
            · have hj0i : ¬ (0 : Int) < (j : Int) := by omega
              go_quiet (fail)
              first | refine Met.intro (hJ0 _ _ ?_) | refine hK0 _ _ (Met.intro (hJ0 _ _ ?_))
              (repeat apply Exists.intro)
              refine ⟨?rel, rfl⟩
              case rel => exact ⟨_, rfl, by unfold Hid; simp [hj0], by first | exact (Ext.refl _).drewN _ | exact (Ext.refl _).drew | exact Ext.refl _⟩
          case rest =>
            obtain ⟨o1, rfl, Ho1, hx3⟩ := hcut
            rename World => wd
            rw [← unhide Ho1] at HoN
            clear Ho1
            have bad : Hid (∀ e : Int, e ≠ 0 → P j = e → R = e) := fun e he hp => by
              rw [unhide E2, hfe, firstE_bad (by omega) (by rw [hp]; exact he), hp, if_pos he]
            have good : Hid (P j = 0 → firstE P 0 vids.length = firstE P (j + 1) (vids.length - (j + 1))) := fun hp => by
              rw [hfe, firstE_ok (by omega) hp, show vids.length - j - 1 = vids.length - (j + 1) by omega]
            have hEd := hE2.trans hx3
            have hXd := hX2.trans hx3
            cases o1
            case true =>
              have Hr : Hid (R = 1) := unhide bad 1 (by decide) (by rw [HPk.out, unhide HoN, if_pos rfl, if_pos (by decide)])
              clear E2 HPk hfe bad good HoN
              go_wp2
              go_ret
              exact ⟨ret_int (unhide Hr).symm, hEd⟩
            have HoN2 : Hid (orderN f (vids.take j) = if (decide (0 < j) && (decide (id = pv) && decide (f.rule ≠ 3))) = true then 4 else 0) := by unfold Hid; rw [unhide HoN, if_neg (by decide)]
            have k3 := hx3.cell k3
            have k4 := hx3.cell k4
            have kB := hx3.cell kB
            have ki := hx3.cell ki
            have e0 := hx3.cell e0
            have e1 := hx3.cell e1
            have e2 := hx3.cell e2
            have e3 := hx3.cell e3
            have e4 := hx3.cell e4
            have rF := hx3.heap rF
            have rTd := hx3.heap (hx2.heap rTr)
            obtain ⟨f0, f1, f2, f3, f4, _⟩ := row5 rF
            clear HoN
            go_upto_region 14 with fail
            go_cut [96] (fun s96 wx => ∃ o2 : Bool, s96 = .bool o2 ∧ Hid (o2 = (decide (0 < j) && (decide (id = pv) && decide (f.rule ≠ 3)))) ∧ Ext wd wx)
            case first =>
              rename_i J0 K0 hJ0 hK0
              have hr3 : (f.rule != 3) = !decide (f.rule = 3) := by by_cases h : f.rule = 3 <;> simp [h]
              have Hr3 := hide hr3
              clear hr3
              by_cases hj0 : 0 < j
              · have hp1 := hx3.cell (hx2.cell (unhide Hpv hj0))
                have hw1 := unhide Hwr hj0
                have hl1 : j - 1 < vids.length := by omega
                have hj0i : (0 : Int) < (j : Int) := by omega
                by_cases hip : id = pv
                · have hipb : (id == pv) = true := by simp [hip]
                  go_quiet (fail)
                  first | refine Met.intro (hJ0 _ _ ?_) | refine hK0 _ _ (Met.intro (hJ0 _ _ ?_))
                  (repeat apply Exists.intro)
                  refine ⟨?rel, rfl⟩
                  case rel => exact ⟨_, rfl, by unfold Hid; first | (simp [hj0, hip]; done) | (simp [hj0, hip]; exact unhide Hr3), by first | exact (Ext.refl _).drewN _ | exact (Ext.refl _).drew | exact Ext.refl _⟩
                · have hipb : (id == pv) = false := by simp [hip]
                  go_quiet (fail)
                  first | refine Met.intro (hJ0 _ _ ?_) | refine hK0 _ _ (Met.intro (hJ0 _ _ ?_))
                  (repeat apply Exists.intro)
                  refine ⟨?rel, rfl⟩
                  case rel => exact ⟨_, rfl, by unfold Hid; first | (simp [hj0, hip]; done) | (simp [hj0, hip]; exact unhide Hr3), by first | exact (Ext.refl _).drewN _ | exact (Ext.refl _).drew | exact Ext.refl _⟩
              · have hj0i : ¬ (0 : Int) < (j : Int) := by omega
                go_quiet (fail)
                first | refine Met.intro (hJ0 _ _ ?_) | refine hK0 _ _ (Met.intro (hJ0 _ _ ?_))
                (repeat apply Exists.intro)
                refine ⟨?rel, rfl⟩
                case rel => exact ⟨_, rfl, by unfold Hid; simp [hj0], by first | exact (Ext.refl _).drewN _ | exact (Ext.refl _).drew | exact Ext.refl _⟩
            case rest =>
              obtain ⟨o2, rfl, Ho2, hx4⟩ := hcut
              rename World => we
              rw [← unhide Ho2] at HoN2
              clear Ho2
              have hEe := hEd.trans hx4
              have hXe := hXd.trans hx4
              cases o2
              case true =>
                have Hr : Hid (R = 4) := unhide bad 4 (by decide) (by rw [HPk.out, unhide HoN2, if_pos rfl, if_pos (by decide)])
                clear E2 HPk hfe bad good HoN2
                go_wp2
                go_ret
                exact ⟨ret_int (unhide Hr).symm, hEe⟩
              have HPl : Hid (P j = if wrongOneN ts f x.kind x.n x.s x.ids.length x.l.length ≠ 0 then wrongOneN ts f x.kind x.n x.s x.ids.length x.l.length
                else if f.kind ≠ 5 then 0 else wrongM ts k ((findM ts f.type).getD TypeM.zero) x) := by
                  have h0 : orderN f (vids.take j) = 0 := by rw [unhide HoN2, if_neg (by decide)]
                  unfold Hid; rw [HPk.out, if_neg (by simp [h0])]
              have k3 := hx4.cell k3
              have k4 := hx4.cell k4
              have kB := hx4.cell kB
              have e0 := hx4.cell e0
              have e1 := hx4.cell e1
              have e2 := hx4.cell e2
              have e3 := hx4.cell e3
              have e4 := hx4.cell e4
              have rF := hx4.heap rF
              obtain ⟨f0, f1, f2, f3, f4, _⟩ := row5 rF
              clear HoN2 HPk Hpv Hwr ki rTd
              go_wp2_with fail
              have hS4 : Ext we we.drew := (Ext.refl we).drew
              refine wp_region_X (fun w' => Ext we w') (fun _ => false) (by kernel_rfl) ?_
              refine wpAnyX_take (i := 0) (v := .agg #[.slice sb.a sb.len sb.cap]) rfl (by kernel_rfl) (by kernel_rfl) (fun _ _ _ h => h) (.inl ⟨rfl, fun w' hS => by simp [execOp, go_sem, hS.cell kB]⟩) (hS4) ?_
              simp only [Act.put, List.getElem_toArray, List.getElem_cons_zero, List.getElem_cons_succ, List.setIfInBounds_toArray, List.set_cons_succ, List.set_cons_zero]
              refine wpAnyX_take (i := 1) (v := .agg #[.int .i64 f.id, .string f.name, .string f.type, .int .i64 f.kind, .int .i64 f.rule]) rfl (by kernel_rfl) (by kernel_rfl) (fun _ _ _ h => h) (.inl ⟨rfl, fun w' hS => by simp [execOp, go_sem, hS.cell f0, hS.cell f1, hS.cell f2, hS.cell f3, hS.cell f4]⟩) (hS4) ?_
              simp only [Act.put, List.getElem_toArray, List.getElem_cons_zero, List.getElem_cons_succ, List.setIfInBounds_toArray, List.set_cons_succ, List.set_cons_zero]
              refine wpAnyX_take (i := 2) (v := .pointer (some ⟨w.heap.size + 1, 4, none⟩)) rfl (by kernel_rfl) (by kernel_rfl) (fun _ _ _ h => h) (.inl ⟨rfl, fun w' hS => by simp [execOp, go_sem]⟩) (hS4) ?_
              simp only [Act.put, List.getElem_toArray, List.getElem_cons_zero, List.getElem_cons_succ, List.setIfInBounds_toArray, List.set_cons_succ, List.set_cons_zero]
              refine wpAnyX_take (i := 3) (v := .slice (some ⟨xb, xo, none⟩) vl.length lc) rfl (by kernel_rfl) (by kernel_rfl) (fun _ _ _ h => h) (.inl ⟨rfl, fun w' hS => by simp [execOp, go_sem, hS.cell k4]⟩) (hS4) ?_
              simp only [Act.put, List.getElem_toArray, List.getElem_cons_zero, List.getElem_cons_succ, List.setIfInBounds_toArray, List.set_cons_succ, List.set_cons_zero]
              refine wpAnyX_take (i := 4) (v := .int .i64 j) rfl (by kernel_rfl) (by kernel_rfl) (fun _ _ _ h => h) (.inl ⟨rfl, fun w' hS => by simp [execOp, go_sem]⟩) (hS4) ?_
              simp only [Act.put, List.getElem_toArray, List.getElem_cons_zero, List.getElem_cons_succ, List.setIfInBounds_toArray, List.set_cons_succ, List.set_cons_zero]
              refine wpAnyX_take (i := 5) (v := .pointer (some ⟨xb, xo + j * 5, none⟩)) rfl (by kernel_rfl) (by kernel_rfl) (fun _ _ _ h => h) (.inl ⟨rfl, fun w' hS => by simp [execOp, go_sem, hjl, hlt2]⟩) (hS4) ?_
              simp only [Act.put, List.getElem_toArray, List.getElem_cons_zero, List.getElem_cons_succ, List.setIfInBounds_toArray, List.set_cons_succ, List.set_cons_zero]
              refine wpAnyX_take (i := 6) (v := .agg #[.int .i64 x.kind, .int .i64 x.n, .string x.s, .slice xia x.ids.length xic, .slice xla x.l.length xlc]) rfl (by kernel_rfl) (by kernel_rfl) (fun _ _ _ h => h) (.inl ⟨rfl, fun w' hS => by simp [execOp, go_sem, hS.cell e0, hS.cell e1, hS.cell e2, hS.cell e3, hS.cell e4]⟩) (hS4) ?_
              simp only [Act.put, List.getElem_toArray, List.getElem_cons_zero, List.getElem_cons_succ, List.setIfInBounds_toArray, List.set_cons_succ, List.set_cons_zero]
              refine wpAnyX_one (j := 7) rfl (by kernel_rfl) rfl fun K hK => ?_
              go_wp2_with fail
              refine (single_any sb ts f x.kind x.n x.s ⟨xia, x.ids.length, xic⟩ ⟨xla, x.l.length, xlc⟩ we.drew ((unhide Hb).ext (hEe.trans hS4)) (unhide Hn) hp1 hfk1).mono ?_
              rintro e w4 ⟨rfl, hx5⟩
              have hS5 : Ext we w4 := hS4.trans hx5
              go_wp2
              refine hK.out _ _ (hS5) ?_
              clear hK K
              refine wpAnyX_one (j := 8) rfl (by kernel_rfl) rfl fun K hK => ?_
              go_wp2
              refine hK.out _ _ (hS5) ?_
              clear hK K
              refine wpAnyX_end [] [] rfl (by intro j i hj; simp at hj) (by kernel_rfl) (by intro i hi; simp at hi) fun K hK => ?_
              go_wp2
              refine hK.out _ _ ?_
              clear hK K
              generalize wrongOneN ts f x.kind x.n x.s x.ids.length x.l.length = o3 at *
              by_cases ho : o3 = 0
              case neg =>
                have Hr : Hid (R = o3) := unhide bad o3 ho (by rw [HPl.out, if_pos ho])
                have hob2 : (o3 != 0) = true := by simpa using ho
                clear E2 HPl hfe bad good
                go_wp2
                go_ret
                exact ⟨ret_int (unhide Hr).symm, hEe.trans hS5⟩
              have HPm : Hid (P j = if f.kind ≠ 5 then 0 else wrongM ts k ((findM ts f.type).getD TypeM.zero) x) := by unfold Hid; rw [HPl.out, if_neg (by simp [ho])]
              have hob2 : (o3 != 0) = false := by simp [ho]
              have kf3 := hS5.cell f3
              clear HPl ho
              by_cases hk5 : f.kind = 5
              case neg =>
                have Hg := unhide good (by rw [HPm.out, if_pos hk5])
                have HG := hide Hg
                have hkb : (f.kind == 5) = false := by simpa using hk5
                clear E2 HPm hfe bad good Hg hk5
                go_wp2
                exact ⟨⟨j + 1, by omega, by go_num, unhide HG, hXe.trans hS5⟩, by simp [intOf]; omega⟩
              have HPn : Hid (P j = wrongM ts k ((findM ts f.type).getD TypeM.zero) x) := by unfold Hid; rw [HPm.out, if_neg (by simp [hk5])]
              have hkb : (f.kind == 5) = true := by simp [hk5]
              clear HPm hk5
              go_wp2_with fail
              have hS6 : Ext we w4.drew := hS5.drew
              refine wp_region_X (fun w' => Ext we w') (fun _ => false) (by kernel_rfl) ?_
              refine wpAnyX_take (i := 0) (v := .agg #[.slice sb.a sb.len sb.cap]) rfl (by kernel_rfl) (by kernel_rfl) (fun _ _ _ h => h) (.inl ⟨rfl, fun w' hS => by simp [execOp, go_sem, hS.cell kB]⟩) (hS6) ?_
              simp only [Act.put, List.getElem_toArray, List.getElem_cons_zero, List.getElem_cons_succ, List.setIfInBounds_toArray, List.set_cons_succ, List.set_cons_zero]
              refine wpAnyX_take (i := 1) (v := .pointer (some ⟨g, 2, none⟩)) rfl (by kernel_rfl) (by kernel_rfl) (fun _ _ _ h => h) (.inl ⟨rfl, fun w' hS => by simp [execOp, go_sem]⟩) (hS6) ?_
              simp only [Act.put, List.getElem_toArray, List.getElem_cons_zero, List.getElem_cons_succ, List.setIfInBounds_toArray, List.set_cons_succ, List.set_cons_zero]
              refine wpAnyX_take (i := 2) (v := .string f.type) rfl (by kernel_rfl) (by kernel_rfl) (fun _ _ _ h => h) (.inl ⟨rfl, fun w' hS => by simp [execOp, go_sem, hS.cell f2]⟩) (hS6) ?_
              simp only [Act.put, List.getElem_toArray, List.getElem_cons_zero, List.getElem_cons_succ, List.setIfInBounds_toArray, List.set_cons_succ, List.set_cons_zero]
              refine wpAnyX_take (i := 3) (v := .pointer (some ⟨w.heap.size + 1, 4, none⟩)) rfl (by kernel_rfl) (by kernel_rfl) (fun _ _ _ h => h) (.inl ⟨rfl, fun w' hS => by simp [execOp, go_sem]⟩) (hS6) ?_
              simp only [Act.put, List.getElem_toArray, List.getElem_cons_zero, List.getElem_cons_succ, List.setIfInBounds_toArray, List.set_cons_succ, List.set_cons_zero]
              refine wpAnyX_take (i := 4) (v := .slice (some ⟨xb, xo, none⟩) vl.length lc) rfl (by kernel_rfl) (by kernel_rfl) (fun _ _ _ h => h) (.inl ⟨rfl, fun w' hS => by simp [execOp, go_sem, hS.cell k4]⟩) (hS6) ?_
              simp only [Act.put, List.getElem_toArray, List.getElem_cons_zero, List.getElem_cons_succ, List.setIfInBounds_toArray, List.set_cons_succ, List.set_cons_zero]
              refine wpAnyX_take (i := 5) (v := .int .i64 j) rfl (by kernel_rfl) (by kernel_rfl) (fun _ _ _ h => h) (.inl ⟨rfl, fun w' hS => by simp [execOp, go_sem]⟩) (hS6) ?_
              simp only [Act.put, List.getElem_toArray, List.getElem_cons_zero, List.getElem_cons_succ, List.setIfInBounds_toArray, List.set_cons_succ, List.set_cons_zero]
              refine wpAnyX_take (i := 6) (v := .pointer (some ⟨xb, xo + j * 5, none⟩)) rfl (by kernel_rfl) (by kernel_rfl) (fun _ _ _ h => h) (.inl ⟨rfl, fun w' hS => by simp [execOp, go_sem, hjl, hlt2]⟩) (hS6) ?_
              simp only [Act.put, List.getElem_toArray, List.getElem_cons_zero, List.getElem_cons_succ, List.setIfInBounds_toArray, List.set_cons_succ, List.set_cons_zero]
              refine wpAnyX_take (i := 7) (v := .agg #[.int .i64 x.kind, .int .i64 x.n, .string x.s, .slice xia x.ids.length xic, .slice xla x.l.length xlc]) rfl (by kernel_rfl) (by kernel_rfl) (fun _ _ _ h => h) (.inl ⟨rfl, fun w' hS => by simp [execOp, go_sem, hS.cell e0, hS.cell e1, hS.cell e2, hS.cell e3, hS.cell e4]⟩) (hS6) ?_
              simp only [Act.put, List.getElem_toArray, List.getElem_cons_zero, List.getElem_cons_succ, List.setIfInBounds_toArray, List.set_cons_succ, List.set_cons_zero]
              refine wpAnyX_one (j := 8) rfl (by kernel_rfl) rfl fun K hK => ?_
              go_wp2_with fail
              refine (ih f.type x ⟨xia, x.ids.length, xic⟩ ⟨xla, x.l.length, xlc⟩ _ ((unhide Hb).ext (hEe.trans hS6)) hsx ((unhide Hxv).ext (hEe.trans hS6))).mono ?_
              rintro e w6 ⟨rfl, hx6⟩
              have hS8 : Ext we w6 := hS6.trans hx6
              go_wp2
              refine hK.out _ _ (hS8) ?_
              clear hK K
              refine wpAnyX_one (j := 9) rfl (by kernel_rfl) rfl fun K hK => ?_
              go_wp2
              refine hK.out _ _ (hS8) ?_
              clear hK K
              refine wpAnyX_end [] [] rfl (by intro j i hj; simp at hj) (by kernel_rfl) (by intro i hi; simp at hi) fun K hK => ?_
              go_wp2
              refine hK.out _ _ ?_
              clear hK K
              generalize wrongM ts k ((findM ts f.type).getD TypeM.zero) x = o4 at *
              by_cases ho : o4 = 0
              case neg =>
                have Hr : Hid (R = o4) := unhide bad o4 ho HPn.out
                have hob3 : (o4 != 0) = true := by simpa using ho
                clear E2 HPn hfe bad good
                go_wp2
                go_ret
                exact ⟨ret_int (unhide Hr).symm, hEe.trans hS8⟩
              have Hg := unhide good (by rw [HPn.out, ho])
              have HG := hide Hg
              have hob3 : (o4 != 0) = false := by simp [ho]
              clear E2 HPn hfe bad good Hg ho
              go_wp2
              exact ⟨⟨j + 1, by omega, by go_num, unhide HG, hXe.trans hS8⟩, by simp [intOf]; omega⟩
      · have hz0 : firstE P 0 vids.length = 0 := by rw [hfe, show vids.length - j = 0 by omega]; rfl
        have E3 : Hid (R = if lacksB t vids = true then 3 else 0) := by unfold Hid; rw [unhide E2, if_neg (by simp [hz0])]
        clear E2 hz0 hfe
        have htf := (unhide Htv).fields
        have efl := htf.1
        obtain ⟨tnm, ten, ⟨fa, fl, fc⟩, tg, ti⟩ := tv
        simp only at efl htf s0 s1 s2 s3 s4
        subst efl
        obtain ⟨q0, q1, q2, q3, q4⟩ : W1.cell? ⟨w.heap.size + 1, 0, none⟩ = some (.int .i64 2) ∧ W1.cell? ⟨w.heap.size + 1, 1, none⟩ = some (.int .i64 0) ∧ W1.cell? ⟨w.heap.size + 1, 2, none⟩ = some (.string ⟨#[]⟩) ∧ W1.cell? ⟨w.heap.size + 1, 3, none⟩ = some (.slice ia vids.length ic) ∧ W1.cell? ⟨w.heap.size + 1, 4, none⟩ = some (.slice la vl.length lc) := ⟨x01.cell v0, x01.cell v1, x01.cell v2, y3, y4⟩
        have Htf := hide htf
        have htl := (unhide Hts).fields
        have Hk := hide hfk
        have Hxr := hide hxr
        have E4 : Hid (lacksB t vids = !(List.range t.fields.length).all (hasOneAt t vids)) := rfl
        rename World => wo
        clear htf hfk
        go_wp2
        clear d3 d4 dB rTr s0 s1 s2 s3 s4
        go_loopw [127] (fun i w2 => ∃ m : Nat, m ≤ t.fields.length ∧ i = .int .i64 m ∧ AllTo (hasOneAt t vids) m ∧ Ext W1 w2) (fun i _ => t.fields.length - (intOf i).toNat)
        case atStart => exact ⟨0, by omega, rfl, AllTo.zero _, unhide Hxr⟩
        case round =>
          obtain ⟨m, hm, rfl, hA, hx⟩ := hrel
          have hEx := hE1.trans hx
          obtain ⟨p0, p1, p2, p3, p4⟩ : wr.cell? ⟨w.heap.size + 1, 0, none⟩ = some (.int .i64 2) ∧ wr.cell? ⟨w.heap.size + 1, 1, none⟩ = some (.int .i64 0) ∧ wr.cell? ⟨w.heap.size + 1, 2, none⟩ = some (.string ⟨#[]⟩) ∧ wr.cell? ⟨w.heap.size + 1, 3, none⟩ = some (.slice ia vids.length ic) ∧ wr.cell? ⟨w.heap.size + 1, 4, none⟩ = some (.slice la vl.length lc) := ⟨hx.cell q0, hx.cell q1, hx.cell q2, hx.cell q3, hx.cell q4⟩
          have zp := World.block_lt_of_cell? wr _ p0
          by_cases hlt : m < t.fields.length
          · obtain ⟨b, o, cs, ea, hr, rfl⟩ := (unhide Htf).2 m t.fields[m] (by simp [hlt])
            simp only at ea
            subst ea
            obtain ⟨h0, h1, h2, h3, h4⟩ := range5 (hx.range hr)
            have Hat : Hid (hasOneAt t vids m = (decide (t.fields[m].rule ≠ 1) || vids.contains t.fields[m].id)) := by
              unfold Hid hasOneAt; rw [show t.fields.getD m FieldM.zero = t.fields[m] by simp [List.getD, hlt]]
            clear hr
            generalize t.fields[m] = f at *
            have hxF : Ext wr (wr.alloc (.cells #[.int .i64 f.id, .string f.name, .string f.type, .int .i64 f.kind, .int .i64 f.rule] 56)) := (Ext.refl wr).alloc _
            by_cases hr1 : f.rule = 1
            · have Hr := hide hr1
              have hrb : (f.rule == 1) = true := by simp [hr1]
              clear hr1
              have HTh := hide (those_any 2 0 ⟨#[]⟩ ⟨ia, vids.length, ic⟩ ⟨la, vl.length, lc⟩ vids vl k f.id (wr.alloc (.cells #[.int .i64 f.id, .string f.name, .string f.type, .int .i64 f.kind, .int .i64 f.rule] 56)) ((unhide Hids).ext (hEx.trans hxF)) (SliceAt.ext (unhide Hl) (hEx.trans hxF) fun _ _ h => h.ext (hEx.trans hxF)) (unhide Hlen) hin)
              have hmi : (m : Int) < (t.fields.length : Int) := by omega
              go_wp2_with fail
              refine (unhide HTh).mono ?_
              rintro e w2 ⟨s, rfl, hs, hx2⟩
              have hE2 := hEx.trans (hxF.trans hx2)
              have hX2 := hx.trans (hxF.trans hx2)
              cases hc : vids.contains f.id
              · have Hc := hide hc
                have hsl : s.len = 0 := by rw [hs]; exact (filter_none vids f.id).2 hc
                have Hres : Hid (R = 3) := by
                  unfold Hid; rw [unhide E3, unhide E4, not_all_range hlt (Hat.out.trans (by rw [unhide Hr, unhide Hc]; rfl))]; rfl
                obtain ⟨sa, sn, sc⟩ := s
                simp only at hsl
                subst hsl
                clear hs hc E3
                go_wp2
                go_ret
                exact ⟨ret_int (unhide Hres).symm, hE2⟩
              · have Hc := hide hc
                have hsl : s.len ≠ 0 := fun h => by
                  rw [(filter_none vids f.id).1 (by rw [← hs]; exact h)] at hc; cases hc
                have hsl1 : (s.len : Int) ≠ 0 := by omega
                have hsb : ((s.len : Int) == 0) = false := by simpa using hsl1
                obtain ⟨sa, sn, sc⟩ := s
                simp only at hsb
                clear hs hc hsl hsl1
                go_wp2
                exact ⟨⟨m + 1, by omega, by go_num, hA.succ (Hat.out.trans (by rw [unhide Hc]; simp)), hX2⟩, by simp [intOf]; omega⟩
            · have Hr := hide hr1
              have hrb : (f.rule == 1) = false := by simpa using hr1
              clear hr1
              go_wp2
              exact ⟨⟨m + 1, by omega, by go_num, hA.succ (Hat.out.trans (by simp [unhide Hr])), hx.trans hxF⟩, by simp [intOf]; omega⟩
          · have Hres : Hid (R = 0) := by unfold Hid; rw [unhide E3, unhide E4, AllTo.all hA (by omega)]; rfl
            clear E3
            go_wp2
            go_ret
            exact ⟨ret_int (unhide Hres).symm, hEx⟩
end Go.Proofs.YtmdpdgldmedebaaGreatDoor

