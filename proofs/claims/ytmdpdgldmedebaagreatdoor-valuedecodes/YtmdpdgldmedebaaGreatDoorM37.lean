import Derived.Test.YtmdpdgldmedebaaGreatDoorM36
namespace Go.Proofs.YtmdpdgldmedebaaGreatDoor
set_option linter.unusedSimpArgs false
set_option linter.unusedVariables false
set_option linter.unusedSimpArgs false
set_option linter.unusedVariables false
open Go.RowKit

theorem sumL_take {f : ValueM → Nat} : ∀ {l : List ValueM} {j : Nat} (h : j < l.length), sumL f (l.take (j + 1)) = sumL f (l.take j) + f l[j]
  | [], _, h => by simp at h
  | x :: r, 0, _ => by simp [sumL]
  | x :: r, j + 1, h => by
    rw [List.take_succ_cons, List.take_succ_cons, sumL, sumL, sumL_take (l := r) (j := j) (by simpa using h)]
    simp; omega
theorem maxL_take {f : ValueM → Nat} : ∀ {l : List ValueM} {j : Nat} (h : j < l.length), maxL f (l.take (j + 1)) = max (maxL f (l.take j)) (f l[j])
  | [], _, h => by simp at h
  | x :: r, 0, _ => by simp [maxL]
  | x :: r, j + 1, h => by
    rw [List.take_succ_cons, List.take_succ_cons, maxL, maxL, maxL_take (l := r) (j := j) (by simpa using h)]
    simp
theorem sumL_part {f : ValueM → Nat} : ∀ (l : List ValueM) (j : Nat), sumL f (l.take j) ≤ sumL f l
  | [], j => by simp [sumL]
  | x :: r, 0 => by simp [sumL]
  | x :: r, j + 1 => by rw [List.take_succ_cons, sumL, sumL]; have := sumL_part (f := f) r j; omega
theorem maxL_sum {f g : ValueM → Nat} (h : ∀ x, f x ≤ g x) : ∀ (l : List ValueM), maxL f l ≤ sumL g l
  | [] => Nat.le_refl _
  | x :: r => by rw [maxL, sumL]; have := maxL_sum h r; have := h x; omega
theorem maxL_part {f : ValueM → Nat} : ∀ (l : List ValueM) (j : Nat), maxL f (l.take j) ≤ maxL f l
  | [], j => by simp [maxL]
  | x :: r, 0 => by simp [maxL]
  | x :: r, j + 1 => by rw [List.take_succ_cons, maxL, maxL]; have := maxL_part (f := f) r j; omega

set_option maxHeartbeats 3200000 in
set_option maxRecDepth 10000 in
theorem sizeOf_any : ∀ (K : Nat) (v : ValueM) (ids l : SV) (w : World), ValueAt K w [.int .i64 v.kind, .int .i64 v.n, .string v.s, .slice ids.a ids.len ids.cap, .slice l.a l.len l.cap] v → cntM K v ≤ 1048576 →
    Calls Tryz.prog 13 #[.agg #[.int .i64 v.kind, .int .i64 v.n, .string v.s, .slice ids.a ids.len ids.cap, .slice l.a l.len l.cap]] w fun e w' => e = .returned (.tuple #[.int .i64 (depM K v), .int .i64 (cntM K v)]) ∧ Ext w w' := by
  intro K
  induction K with
  | zero => intro _ _ _ _ h; exact h.elim
  | succ k ih =>
    intro v ids l w hv hc
    obtain ⟨ids', l', he, hids, hl, hiok, hlok⟩ := hv
    simp only [List.cons.injEq, Value.slice.injEq, and_true, true_and] at he
    obtain ⟨⟨i1, i2, i3⟩, l1, l2, l3⟩ := he
    obtain rfl : l = l' := by cases l; cases l'; simp_all
    clear i1 i2 i3 l1 l2 l3 hiok hlok hids
    obtain ⟨la, ll, lc⟩ := l
    have ell := hl.1
    simp only at ell
    subst ell
    have hD : Hid (depM (k + 1) v = 1 + maxL (depM k) v.l) := rfl
    have hC : Hid (cntM (k + 1) v = 1 + sumL (cntM k) v.l) := rfl
    have hcs : 1 + sumL (cntM k) v.l ≤ 1048576 := by have := unhide hC; omega
    generalize depM (k + 1) v = RD at *
    generalize cntM (k + 1) v = RC at *
    obtain ⟨vk, vn, vs, vids, vl⟩ := v
    simp only at hl hD hC hcs
    have hln : vl.length ≤ 1048576 := by
      have : vl.length ≤ sumL (cntM k) vl := by
        clear hl hD hC hcs hc
        induction vl with
        | nil => exact Nat.zero_le _
        | cons x r ih => rw [List.length_cons, sumL]; have : 1 ≤ cntM k x := cnt_pos; omega
      omega
    show Calls Tryz.prog 13 #[.agg #[.int .i64 vk, .int .i64 vn, .string vs, .slice ids.a ids.len ids.cap, .slice la vl.length lc]] w _
    obtain ⟨w0, hw0⟩ : ∃ w0, w0 = w.alloc (.cells #[.int .i64 vk, .int .i64 vn, .string vs, .slice ids.a ids.len ids.cap, .slice la vl.length lc] 28) := ⟨_, rfl⟩
    have hx0 : Ext w w0 := by rw [hw0]; exact (Ext.refl w).alloc _
    have r0 : w0.heap[w.heap.size]? = some (.cells #[.int .i64 vk, .int .i64 vn, .string vs, .slice ids.a ids.len ids.cap, .slice la vl.length lc] 28 (0, 0)) := by rw [hw0]; exact heap_alloc_new _ _
    obtain ⟨v0, v1, v2, v3, v4, _⟩ := row5 r0
    have Hl := hide hl
    have HW0 := hide hw0
    have hP := hide (fun j => sumL_part (f := cntM k) vl j)
    have hQ := hide (fun j => Nat.le_trans (maxL_part (f := depM k) vl j) (maxL_sum (fun x => dep_cnt (k := k) (v := x)) vl))
    have hS := hide (fun (j : Nat) (h : j < vl.length) => sumL_take (f := cntM k) h)
    have hM := hide (fun (j : Nat) (h : j < vl.length) => maxL_take (f := depM k) h)
    clear hl hw0 hc
    go_enter Tryz.func13, Tryz.ntmps13
    go_wp2
    rw [← unhide HW0]
    go_loopw [4, 5, 13] (fun vd vc i wr => ∃ (j d c : Nat), j ≤ vl.length ∧ i = .int .i64 j ∧ d = 1 + maxL (depM k) (vl.take j) ∧ c = 1 + sumL (cntM k) (vl.take j) ∧ vd = .int .i64 d ∧ vc = .int .i64 c ∧ Ext w0 wr) (fun _ _ i _ => vl.length - (intOf i).toNat)
    case atStart => exact ⟨0, 1, 1, by omega, rfl, by simp [maxL], by simp [sumL], rfl, rfl, Ext.refl _⟩
    case round =>
      obtain ⟨j, d, c, hj, rfl, hd, hc, rfl, rfl, hxr⟩ := hrel
      have hEr := hx0.trans hxr
      by_cases hlt : j < vl.length
      · obtain ⟨xb, xo, cs, hla, hr, hxv⟩ := (unhide Hl).2 j vl[j] (by simp [hlt])
        simp only at hla
        subst hla
        obtain ⟨xi, xl, rfl, _, _, _, _⟩ := hxv.opens
        obtain ⟨x0, x1, x2, x3, x4⟩ := range5 (hEr.range hr)
        have Hxv := hide (hxv.ext hEr)
        have s1 := unhide hS j hlt
        have m1 := unhide hM j hlt
        have s2 := unhide hP (j + 1)
        have s3 := unhide hP j
        have m2 := unhide hQ (j + 1)
        have m3 := unhide hQ j
        have hji : (j : Int) < (vl.length : Int) := by omega
        generalize vl[j] = x at *
        obtain ⟨dx, hdx⟩ : ∃ dx, dx = depM k x := ⟨_, rfl⟩
        obtain ⟨cx, hcx⟩ : ∃ cx, cx = cntM k x := ⟨_, rfl⟩
        have hcx1 : cntM k x ≤ 1048576 := by omega
        have ihx := hide (fun w1 (hx1 : Ext wr w1) => ih x xi xl w1 ((unhide Hxv).ext hx1) hcx1)
        rw [← hdx, ← hcx] at ihx
        have c1 : c + cx ≤ 1048576 := by omega
        have d1 : dx + 1 ≤ 1048577 := by omega
        have d2 : d ≤ 1048577 := by omega
        have Hd : Hid (d < dx + 1 → dx + 1 = 1 + maxL (depM k) (vl.take (j + 1))) := fun h => by omega
        have Hd2 : Hid (¬ d < dx + 1 → d = 1 + maxL (depM k) (vl.take (j + 1))) := fun h => by omega
        have Hc : Hid (c + cx = 1 + sumL (cntM k) (vl.take (j + 1))) := by unfold Hid; omega
        clear hr hxv s1 m1 s2 s3 m2 m3 hd hc hdx hcx hcx1
        have hxw : Ext wr (wr.alloc (.cells #[.int .i64 x.kind, .int .i64 x.n, .string x.s, .slice xi.a xi.len xi.cap, .slice xl.a xl.len xl.cap] 28)) := (Ext.refl wr).alloc _
        go_wp2_with fail
        refine (unhide ihx _ hxw).mono ?_
        rintro e w2 ⟨rfl, hx2⟩
        have h02 := hxr.trans (hxw.trans hx2)
        by_cases hgt : d < dx + 1
        · have Hd3 := hide (unhide Hd hgt)
          have hgi : (d : Int) < (dx : Int) + 1 := by omega
          clear Hd Hd2
          go_wp2
          exact ⟨⟨j + 1, dx + 1, c + cx, by omega, by go_num, unhide Hd3, unhide Hc, by go_num, by go_num, h02⟩, by simp [intOf]; omega⟩
        · have Hd3 := hide (unhide Hd2 hgt)
          have hgi : ¬ (d : Int) < (dx : Int) + 1 := by omega
          clear Hd Hd2
          go_wp2
          exact ⟨⟨j + 1, d, c + cx, by omega, by go_num, unhide Hd3, unhide Hc, by go_num, by go_num, h02⟩, by simp [intOf]; omega⟩
      · rw [List.take_of_length_le (by omega)] at hd hc
        have e1 := hide (show d = RD by have := unhide hD; omega)
        have e2 := hide (show c = RC by have := unhide hC; omega)
        clear hd hc
        go_wp2
        refine bodyPost_ret (v := .tuple #[.int .i64 d, .int .i64 c]) (by simp [results, Tryz.results13, go_sem]) rfl ⟨by rw [unhide e1, unhide e2], hEr⟩
end Go.Proofs.YtmdpdgldmedebaaGreatDoor

namespace Go.Proofs.YtmdpdgldmedebaaGreatDoor
set_option linter.unusedSimpArgs false
set_option linter.unusedVariables false
open Go.RowKit

set_option maxHeartbeats 1600000 in
set_option maxRecDepth 10000 in
theorem isSmall_any (K : Nat) (v : ValueM) (ids l : SV) (w : World) (hv : ValueAt K w [.int .i64 v.kind, .int .i64 v.n, .string v.s, .slice ids.a ids.len ids.cap, .slice l.a l.len l.cap] v) (hb : cntM K v ≤ 1048576) :
    Calls Tryz.prog 35 #[.agg #[.int .i64 v.kind, .int .i64 v.n, .string v.s, .slice ids.a ids.len ids.cap, .slice l.a l.len l.cap]] w fun e w' => e = .returned (.bool (!largeB K v)) ∧ Ext w w' := by
  have hx0 : Ext w (w.alloc (.cells #[.int .i64 v.kind, .int .i64 v.n, .string v.s, .slice ids.a ids.len ids.cap, .slice l.a l.len l.cap] 28)) := (Ext.refl w).alloc _
  have HS := hide (sizeOf_any K v ids l _ (hv.ext hx0) hb)
  have hdc := dep_cnt (k := K) (v := v)
  have E : Hid (largeB K v = (decide (24 < depM K v) || decide (400 < cntM K v))) := rfl
  generalize largeB K v = R at *
  generalize depM K v = d at *
  generalize cntM K v = c at *
  clear hv
  go_enter Tryz.func35, Tryz.ntmps35
  go_wp2_with fail
  refine (unhide HS).mono ?_
  rintro e w1 ⟨rfl, hx1⟩
  have h01 := hx0.trans hx1
  by_cases hd : d < 25
  · have hd1 : (d : Int) < 25 := by omega
    by_cases hc : c < 401
    · have hc1 : (c : Int) < 401 := by omega
      have E2 : Hid (R = false) := by unfold Hid; rw [unhide E, Bool.or_eq_false_iff, decide_eq_false_iff_not, decide_eq_false_iff_not]; omega
      clear E hd hc
      go_wp2
      go_ret
      exact ⟨ret_bool (by rw [unhide E2]; first | rfl | (simp; omega)), h01⟩
    · have hc1 : ¬ (c : Int) < 401 := by omega
      have E2 : Hid (R = true) := by unfold Hid; rw [unhide E, Bool.or_eq_true, decide_eq_true_eq, decide_eq_true_eq]; omega
      clear E hd hc
      go_wp2
      go_ret
      exact ⟨ret_bool (by rw [unhide E2]; first | rfl | (simp; omega)), h01⟩
  · have hd1 : ¬ (d : Int) < 25 := by omega
    have E2 : Hid (R = true) := by unfold Hid; rw [unhide E, Bool.or_eq_true, decide_eq_true_eq, decide_eq_true_eq]; omega
    clear E hd
    go_wp2
    go_ret
    exact ⟨ret_bool (by rw [unhide E2]; first | rfl | (simp; omega)), h01⟩

set_option maxHeartbeats 3200000 in
theorem messageOfR_any (sb : SV) (ts : BookM) (name : ByteArray) (w : World) (hb : BookAt w sb ts) (hm : MaxAt w) (hn : ts.Small) :
    Calls Tryz.prog 25 #[.agg #[.slice sb.a sb.len sb.cap], .string name] w fun e w' => ∃ tv : TV, e = .returned (.tuple #[.agg #[.string tv.name, .bool tv.enum, .slice tv.fields.a tv.fields.len tv.fields.cap, .slice tv.gone.a tv.gone.len tv.gone.cap, .slice tv.items.a tv.items.len tv.items.cap], .int .i64 (msgE ts name)]) ∧ Ext w w' := by
  obtain ⟨w0, hw0⟩ : ∃ w0, w0 = (w.alloc (.cells #[.slice sb.a sb.len sb.cap] 24)).alloc (.cells #[.string ⟨#[]⟩, .bool false, .slice none 0 0, .slice none 0 0, .slice none 0 0] 50) := ⟨_, rfl⟩
  obtain ⟨hx0, hz, r0, r1⟩ := heaps2 hw0
  have HW0 := hide hw0
  clear hw0
  have Hb := hide (hb.ext hx0)
  have Hm := hide (hm.ext hx0)
  have b0 : w0.cell? ⟨w.heap.size, 0, none⟩ = some (.slice sb.a sb.len sb.cap) := cell_of_row _ _ 0 _ _ _ r0
  clear hb hm
  have M1 := hide (@msgE_bad ts name)
  have M2 := hide (@msgE_none ts name)
  have M3 := hide (@msgE_ok ts name)
  obtain ⟨R, hR⟩ : ∃ R, R = msgE ts name := ⟨_, rfl⟩
  rw [← hR]
  have HR := hide hR
  clear hR
  go_enter Tryz.func25, Tryz.ntmps25
  go_wp2_with fail
  rw [← unhide HW0]
  refine (refTypeOf_any sb ts name w0 (unhide Hb) hn.1).mono ?_
  rintro e w1 ⟨tv, rfl, htv, hx1⟩
  have hen := htv.enum
  obtain ⟨is, hfi⟩ : ∃ is, is = (findM ts name).isSome := ⟨_, rfl⟩
  have htf : Hid ((findM ts name).isSome = is ∧ ((findM ts name).getD TypeM.zero).enum = tv.enum) := ⟨hfi.symm, hen.symm⟩
  rw [← hfi]
  obtain ⟨nm, en, fs, gs, its⟩ := tv
  try simp only at htf
  clear htv hen hfi
  have hx2 : Ext w1 (w1.alloc (.cells #[.string nm, .bool en, .slice fs.a fs.len fs.cap, .slice gs.a gs.len gs.cap, .slice its.a its.len its.cap] 50)) := (Ext.refl w1).alloc _
  have r2 : (w1.alloc (.cells #[.string nm, .bool en, .slice fs.a fs.len fs.cap, .slice gs.a gs.len gs.cap, .slice its.a its.len its.cap] 50)).heap[w1.heap.size]? = some (.cells #[.string nm, .bool en, .slice fs.a fs.len fs.cap, .slice gs.a gs.len gs.cap, .slice its.a its.len its.cap] 50 (0, 0)) := heap_alloc_new _ _
  have b1 := hx1.cell b0
  have z1 := World.block_lt_of_cell? w1 _ b1
  go_wp2_with fail
  refine (goodBook_any sb ts hn _ ((unhide Hb).ext (hx1.trans hx2)) ((unhide Hm).ext (hx1.trans hx2))).mono ?_
  rintro e w3 ⟨rfl, hx3⟩
  have h13 := hx2.trans hx3
  have h03 := hx1.trans h13
  have R3 := h03.heap r1
  have z3 := lt_of_heap R3
  obtain ⟨a0, a1, a2, a3, a4, af⟩ := row5 R3
  have T3 := hx3.heap r2
  have z4 := lt_of_heap T3
  obtain ⟨t0, t1, t2, t3, t4, _⟩ := row5 T3
  have hE3 := hx0.trans h03
  by_cases hg : goodM ts = 0
  case neg =>
    have hgb : (goodM ts != 0) = true := by simpa using hg
    have E2 : Hid (R = 1) := by unfold Hid; rw [unhide HR]; exact (unhide M1 hg).1
    clear M1 M2 M3 hg
    generalize goodM ts = gm at *
    go_wp2
    refine bodyPost_ret (v := .tuple #[.agg #[.string ⟨#[]⟩, .bool false, .slice none 0 0, .slice none 0 0, .slice none 0 0], .int .i64 1]) ?_ rfl ⟨⟨⟨#[]⟩, false, ⟨none, 0, 0⟩, ⟨none, 0, 0⟩, ⟨none, 0, 0⟩⟩, by rw [unhide E2], hE3.setCell5 (by omega) _ _ _ _ _⟩
    simp [results, Tryz.results25, go_sem, a0, a1, a2, a3, a4, z3]
  have hgb : (goodM ts != 0) = false := by simp [hg]
  have N2 : Hid (is = false ∨ en = true → R = 3) := fun h => by
    rw [unhide HR]; refine (unhide M2 hg ?_).1
    rcases h with h | h
    · exact .inl ((unhide htf).1.trans h)
    · exact .inr ((unhide htf).2.trans h)
  have N3 : Hid (is = true → en = false → R = 0) := fun h1 h2 => by
    rw [unhide HR]; exact (unhide M3 hg ((unhide htf).1.trans h1) ((unhide htf).2.trans h2)).1
  clear M1 M2 M3 hg HR htf
  generalize goodM ts = gm at *
  cases is
  · have E2 := hide (unhide N2 (.inl rfl))
    clear N2 N3
    go_wp2
    refine bodyPost_ret (v := .tuple #[.agg #[.string ⟨#[]⟩, .bool false, .slice none 0 0, .slice none 0 0, .slice none 0 0], .int .i64 3]) ?_ rfl ⟨⟨⟨#[]⟩, false, ⟨none, 0, 0⟩, ⟨none, 0, 0⟩, ⟨none, 0, 0⟩⟩, by rw [unhide E2], hE3.setCell5 (by omega) _ _ _ _ _⟩
    simp [results, Tryz.results25, go_sem, a0, a1, a2, a3, a4, z3]
  cases en
  · have E2 := hide (unhide N3 rfl rfl)
    clear N2 N3
    go_wp2
    refine bodyPost_ret (v := .tuple #[.agg #[.string nm, .bool false, .slice fs.a fs.len fs.cap, .slice gs.a gs.len gs.cap, .slice its.a its.len its.cap], .int .i64 0]) ?_ rfl ⟨⟨nm, false, fs, gs, its⟩, by rw [unhide E2], hE3.setCell5 (by omega) _ _ _ _ _⟩
    simp [results, Tryz.results25, go_sem, a0, a1, a2, a3, a4, z3]
  · have E2 := hide (unhide N2 (.inr rfl))
    clear N2 N3
    go_wp2
    refine bodyPost_ret (v := .tuple #[.agg #[.string ⟨#[]⟩, .bool false, .slice none 0 0, .slice none 0 0, .slice none 0 0], .int .i64 3]) ?_ rfl ⟨⟨⟨#[]⟩, false, ⟨none, 0, 0⟩, ⟨none, 0, 0⟩, ⟨none, 0, 0⟩⟩, by rw [unhide E2], hE3.setCell5 (by omega) _ _ _ _ _⟩
    simp [results, Tryz.results25, go_sem, a0, a1, a2, a3, a4, z3]

set_option maxHeartbeats 3200000 in
set_option maxRecDepth 10000 in
theorem those_any (vk vn : Int) (vs : ByteArray) (ids l : SV) (idsM : List Int) (lM : List ValueM) (k : Nat) (id : Int) (w : World) (hids : IntsAt w ids idsM) (hl : SliceAt 5 (ValueAt k) w l lM) (hlen : lM.length = idsM.length) (hn : idsM.length ≤ 1048576) :
    Calls Tryz.prog 55 #[.agg #[.int .i64 vk, .int .i64 vn, .string vs, .slice ids.a ids.len ids.cap, .slice l.a l.len l.cap], .int .i64 id] w fun e w' => ∃ s : SV, e = .returned (.slice s.a s.len s.cap) ∧ s.len = (idsM.filter (· == id)).length ∧ Ext w w' := by
  obtain ⟨ia, il, ic⟩ := ids
  obtain ⟨la, ll, lc⟩ := l
  have eil := hids.1
  have ell := hl.1
  simp only at eil ell
  subst eil ell
  have HL := hide hlen
  have Hids := hide hids
  have Hl := hide hl
  obtain ⟨w0, hw0⟩ : ∃ w0, w0 = w.alloc (.cells #[.int .i64 vk, .int .i64 vn, .string vs, .slice ia idsM.length ic, .slice la lM.length lc] 28) := ⟨_, rfl⟩
  have hx0 : Ext w w0 := by rw [hw0]; exact (Ext.refl w).alloc _
  have r0 : w0.heap[w.heap.size]? = some (.cells #[.int .i64 vk, .int .i64 vn, .string vs, .slice ia idsM.length ic, .slice la lM.length lc] 28 (0, 0)) := by rw [hw0]; exact heap_alloc_new _ _
  have hz0 : w0.heap.size = w.heap.size + 1 := by rw [hw0]; simp
  obtain ⟨v0, v1, v2, v3, v4, _⟩ := row5 r0
  have HW0 := hide hw0
  have hTk := hide (fun (j : Nat) (h : j < idsM.length) => show ((idsM.take (j + 1)).filter (· == id)).length = ((idsM.take j).filter (· == id)).length + (if (idsM[j] == id) = true then 1 else 0) by
    rw [List.take_succ_eq_append_getElem h, List.filter_append, List.length_append]
    congr 1
    cases he : idsM[j] == id <;> simp [he])
  have hTl := hide (fun (j : Nat) => Nat.le_trans (List.length_filter_le (· == id) (idsM.take j)) (List.length_take_le j idsM))
  clear hlen hids hl hw0
  show Calls Tryz.prog 55 #[.agg #[.int .i64 vk, .int .i64 vn, .string vs, .slice ia idsM.length ic, .slice la lM.length lc], .int .i64 id] w _
  go_enter Tryz.func55, Tryz.ntmps55
  go_wp2
  rw [← unhide HW0]
  go_loopw [5, 10] (fun vt i wr => ∃ (j n : Nat) (xs : List Value), j ≤ idsM.length ∧ i = .int .i64 j ∧ n = ((idsM.take j).filter (· == id)).length ∧ wr.ownsRow (w.heap.size + 1) 28 5 vt n xs ∧ Ext w0 wr) (fun _ i _ => idsM.length - (intOf i).toNat)
  case atStart => exact ⟨0, 0, [], by omega, rfl, by simp, World.ownsRow_nil _ _ _ _, Ext.refl _⟩
  case round =>
    obtain ⟨j, n, xs, hj, rfl, hnn, hown, hxr⟩ := hrel
    have hEr : Ext w wr := hx0.trans hxr
    have d3 := hxr.cell v3
    have d4 := hxr.cell v4
    by_cases hlt : j < idsM.length
    · have hlt2 : j < lM.length := by rw [unhide HL]; exact hlt
      obtain ⟨ib, io, cs, hia, hr, rfl⟩ := (unhide Hids).2 j idsM[j] (by simp [hlt])
      obtain ⟨xb, xo, cs2, hla, hr2, hxv⟩ := (unhide Hl).2 j lM[j] (by simp [hlt2])
      simp only at hia hla
      subst hia hla
      obtain ⟨xi, xl, rfl, hxi, hxl, _, _⟩ := hxv.opens
      have ci := hEr.cell (hr 0 _ rfl)
      rw [Nat.mul_one, Nat.add_zero] at ci
      obtain ⟨c0, c1, c2, c3, c4⟩ := range5 (hEr.range hr2)
      have tk := unhide hTk j hlt
      have tl := unhide hTl j
      generalize idsM[j] = i at *
      generalize lM[j] = x at *
      have hji : (j : Int) < (idsM.length : Int) := by omega
      have hji2 : (j : Int) < (lM.length : Int) := by omega
      have hn1 : n < 1048576 := by omega
      have Hown := hide hown
      have hwz : w.heap.size + 1 ≤ wr.heap.size := by have := hxr.size; omega
      clear hr hr2 hxv hxi hxl hown
      by_cases he : (i == id) = true
      · rw [if_pos he] at tk
        have Htk : Hid (n + 1 = ((idsM.take (j + 1)).filter (· == id)).length) := by unfold Hid; omega
        clear tk tl hnn
        go_wp2_with (at_builtin; refine wpList_app1 _ _ 26 28 (.agg #[.int .i64 0, .int .i64 0, .string ⟨#[]⟩, .slice none 0 0, .slice none 0 0]) 5 80 Tryz.underlying26 info28 rfl (by decide) (by decide) rfl rfl (w.heap.size + 1) _ n _ rfl ((unhide Hown).alloc _) wr.heap.size 1 [.int .i64 x.kind, .int .i64 x.n, .string x.s, .slice xi.a xi.len xi.cap, .slice xl.a xl.len xl.cap] rfl rfl ?c1 ?c2 ?c3 ?c4 ?_)
        case c1 => exact range_of_new5 _ _ _ _ _ _ _ rfl
        case c2 => intro u hu; simp at hu; rcases hu with rfl | rfl | rfl | rfl | rfl <;> rfl
        case c3 => omega
        case c4 => simp; omega
        intro v6 w6 ho6 hg6
        have hE6 : Ext w0 w6 := (hxr.alloc _).owned hg6 ((unhide Hown).alloc _) (by omega)
        have Ho6 := hide ho6
        clear ho6 hg6
        go_wp2
        exact ⟨⟨j + 1, n + 1, _, by omega, by go_num, unhide Htk, unhide Ho6, hE6⟩, by simp [intOf]; omega⟩
      · have he : (i == id) = false := by simpa using he
        rw [if_neg (by simp [he])] at tk
        have Htk : Hid (n = ((idsM.take (j + 1)).filter (· == id)).length) := by unfold Hid; omega
        clear tk tl hnn
        go_wp2
        exact ⟨⟨j + 1, n, xs, by omega, by go_num, unhide Htk, unhide Hown, hxr⟩, by simp [intOf]; omega⟩
    · rw [List.take_of_length_le (by omega)] at hnn
      obtain ⟨a', c', rfl⟩ := owns_slice hown
      have Hn := hide hnn
      clear hown hnn
      go_wp2
      go_ret
      exact ⟨⟨a', n, c'⟩, rfl, unhide Hn, hEr⟩
end Go.Proofs.YtmdpdgldmedebaaGreatDoor

