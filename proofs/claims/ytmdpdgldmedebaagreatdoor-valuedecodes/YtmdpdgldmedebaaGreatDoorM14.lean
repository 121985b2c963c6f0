import Derived.Test.YtmdpdgldmedebaaGreatDoorM13
import Derived.Lib.SliceRun
namespace Go.Proofs.YtmdpdgldmedebaaGreatDoor
set_option linter.unusedSimpArgs false
set_option linter.unusedVariables false
set_option linter.unusedSimpArgs false
set_option linter.unusedVariables false
open Go.RowKit

set_option maxHeartbeats 1600000 in
theorem insertI_end (base : Nat) (w : World) (v : Value) (n : Nat) (xs : List Value) (g : Nat) (news : List Value) (ho : w.ownsRow base 3 1 v n xs) (hl : news.length = 1) (hnews : w.rangeAt g 0 news) (h1 : ∀ u ∈ news, u.oneCell' = true) (hn : n < 1048576) (hbase : base ≤ w.heap.size) :
    Calls Tryz.prog 84 #[v, .int .i64 n, .slice (some ⟨g, 0, none⟩) 1 1] w fun e w' => ∃ v', e = .returned v' ∧ w'.ownsRow base 3 1 v' (n + 1) (xs ++ news) ∧ w.grownBy w' v.ownBlock ∧ (v'.ownBlock = v.ownBlock ∨ ∃ g', v'.ownBlock = some g' ∧ w.heap.size ≤ g') := by
  obtain ⟨a, c, rfl⟩ := owns_slice ho
  have hok := ok_of_owns (s := ⟨a, n, c⟩) ho
  have hnc : n ≤ c := hok.1
  have hni : (n : Int) ≤ (n : Int) := Int.le_refl _
  have Ho := hide ho
  have hcc : a = none → c = 0 := hok.2
  clear ho hok
  have hcase : (a = none ∧ c = 0 ∧ n = 0) ∨ (∃ ad, a = some ad ∧ c = n) ∨ (∃ ad, a = some ad ∧ ¬ c = n) := by
    cases a with
    | none => exact .inl ⟨rfl, hcc rfl, by have := hcc rfl; omega⟩
    | some ad => by_cases h : c = n
                 · exact .inr (.inl ⟨ad, rfl, h⟩)
                 · exact .inr (.inr ⟨ad, rfl, h⟩)
  rcases hcase with ⟨rfl, rfl, rfl⟩ | ⟨ad, rfl, rfl⟩ | ⟨ad, rfl, hc⟩
  all_goals
    go_enter Tryz.func84, Tryz.ntmps84
    go_wp2_with (at_builtin; refine wpList_app1w _ _ 25 3 (.int .i64 0) 1 8 Tryz.underlying25 info3 rfl (by decide) (by decide) rfl rfl base _ _ _ rfl (unhide Ho) g 1 news rfl hl hnews h1 hn hbase ?_)
    intro v' w' h2 h3 h4
    have H2 := hide h2
    have H3 := hide h3
    have H4 := hide h4
    obtain ⟨a', c', rfl⟩ := owns_slice h2
    clear h2 h3 h4
    go_wp2
    go_ret
    exact ⟨_, rfl, unhide H2, unhide H3, unhide H4⟩

set_option maxHeartbeats 1600000 in
theorem insertV_end (base : Nat) (w : World) (v : Value) (n : Nat) (xs : List Value) (g : Nat) (news : List Value) (ho : w.ownsRow base 28 5 v n xs) (hl : news.length = 5) (hnews : w.rangeAt g 0 news) (h1 : ∀ u ∈ news, u.oneCell' = true) (hn : n < 1048576) (hbase : base ≤ w.heap.size) :
    Calls Tryz.prog 85 #[v, .int .i64 n, .slice (some ⟨g, 0, none⟩) 1 1] w fun e w' => ∃ v', e = .returned v' ∧ w'.ownsRow base 28 5 v' (n + 1) (xs ++ news) ∧ w.grownBy w' v.ownBlock ∧ (v'.ownBlock = v.ownBlock ∨ ∃ g', v'.ownBlock = some g' ∧ w.heap.size ≤ g') := by
  obtain ⟨a, c, rfl⟩ := owns_slice ho
  have hok := ok_of_owns (s := ⟨a, n, c⟩) ho
  have hnc : n ≤ c := hok.1
  have hni : (n : Int) ≤ (n : Int) := Int.le_refl _
  have Ho := hide ho
  have hcc : a = none → c = 0 := hok.2
  clear ho hok
  have hcase : (a = none ∧ c = 0 ∧ n = 0) ∨ (∃ ad, a = some ad ∧ c = n) ∨ (∃ ad, a = some ad ∧ ¬ c = n) := by
    cases a with
    | none => exact .inl ⟨rfl, hcc rfl, by have := hcc rfl; omega⟩
    | some ad => by_cases h : c = n
                 · exact .inr (.inl ⟨ad, rfl, h⟩)
                 · exact .inr (.inr ⟨ad, rfl, h⟩)
  rcases hcase with ⟨rfl, rfl, rfl⟩ | ⟨ad, rfl, rfl⟩ | ⟨ad, rfl, hc⟩
  all_goals
    go_enter Tryz.func85, Tryz.ntmps85
    go_wp2_with (at_builtin; refine wpList_app1w _ _ 26 28 (.agg #[.int .i64 0, .int .i64 0, .string ⟨#[]⟩, .slice none 0 0, .slice none 0 0]) 5 80 Tryz.underlying26 info28 rfl (by decide) (by decide) rfl rfl base _ _ _ rfl (unhide Ho) g 1 news rfl hl hnews h1 hn hbase ?_)
    intro v' w' h2 h3 h4
    have H2 := hide h2
    have H3 := hide h3
    have H4 := hide h4
    obtain ⟨a', c', rfl⟩ := owns_slice h2
    clear h2 h3 h4
    go_wp2
    go_ret
    exact ⟨_, rfl, unhide H2, unhide H3, unhide H4⟩
end Go.Proofs.YtmdpdgldmedebaaGreatDoor

namespace Go.Proofs.YtmdpdgldmedebaaGreatDoor
set_option linter.unusedSimpArgs false
set_option linter.unusedVariables false
open Go.RowKit

/-- The value of a part, a message's without what its bytes tell. -/
def bareM (p : PartM) : ValueM := ⟨p.kind, p.n, if p.kind = 1 then p.s else ⟨#[]⟩, [], []⟩
set_option maxHeartbeats 3200000 in
theorem bare_any (p : PartM) (w : World) : Calls Tryz.prog 59 #[.agg #[.int .i64 p.id, .int .i64 p.kind, .int .i64 p.n, .string p.s]] w fun e w' => e = .returned (.agg #[.int .i64 (bareM p).kind, .int .i64 (bareM p).n, .string (bareM p).s, .slice none 0 0, .slice none 0 0]) ∧ Ext w w' := by
  by_cases hk : p.kind = 1
  · have Hb : Hid (bareM p = ⟨p.kind, p.n, p.s, [], []⟩) := by unfold Hid bareM; rw [if_pos hk]
    have hkb : (p.kind == 1) = true := by simp [hk]
    clear hk
    generalize bareM p = bm at *
    go_enter Tryz.func59, Tryz.ntmps59
    go_wp2
    refine bodyPost_ret (v := .agg #[.int .i64 p.kind, .int .i64 p.n, .string p.s, .slice none 0 0, .slice none 0 0]) ?_ rfl ?_
    · simp [results, Tryz.results59, go_sem]
    · rw [unhide Hb]
      exact ⟨rfl, (((Ext.refl w).alloc _).alloc _).alloc _⟩
  · have Hb : Hid (bareM p = ⟨p.kind, p.n, ⟨#[]⟩, [], []⟩) := by unfold Hid bareM; rw [if_neg hk]
    have hkb : (p.kind == 1) = false := by simpa using hk
    clear hk
    generalize bareM p = bm at *
    go_enter Tryz.func59, Tryz.ntmps59
    go_wp2
    refine bodyPost_ret (v := .agg #[.int .i64 p.kind, .int .i64 p.n, .string ⟨#[]⟩, .slice none 0 0, .slice none 0 0]) ?_ rfl ?_
    · simp [results, Tryz.results59, go_sem]
    · rw [unhide Hb]
      exact ⟨rfl, (((Ext.refl w).alloc _).alloc _).alloc _⟩
set_option maxHeartbeats 800000 in
theorem size_any (K : Nat) (v : ValueM) (ids l : SV) (w : World) (hv : ValueAt K w [.int .i64 v.kind, .int .i64 v.n, .string v.s, .slice ids.a ids.len ids.cap, .slice l.a l.len l.cap] v) (hb : cntM K v ≤ 1048576) :
    Calls Tryz.prog 12 #[.agg #[.int .i64 v.kind, .int .i64 v.n, .string v.s, .slice ids.a ids.len ids.cap, .slice l.a l.len l.cap]] w fun e w' => e = .returned (.tuple #[.int .i64 (depM K v), .int .i64 (cntM K v)]) ∧ Ext w w' := by
  have hx0 : Ext w (w.alloc (.cells #[.int .i64 v.kind, .int .i64 v.n, .string v.s, .slice ids.a ids.len ids.cap, .slice l.a l.len l.cap] 28)) := (Ext.refl w).alloc _
  have Hv := hide (hv.ext hx0)
  clear hv
  have hd : depM K v ≤ 1048576 := Nat.le_trans dep_cnt hb
  go_enter Tryz.func12, Tryz.ntmps12
  go_wp2_with fail
  refine (sizeWithin_any K v ids l 2147483647 2147483647 _ (unhide Hv) hb).mono ?_
  rintro e w1 ⟨d, c, rfl, hsz, hx1⟩
  obtain ⟨e1, e2⟩ := hsz.all (by have := hsz.dep; omega) (by have := hsz.cnt; omega)
  subst e1 e2
  clear hsz
  go_wp2
  exact bodyPost_ret (v := .tuple #[.int .i64 (depM K v), .int .i64 (cntM K v)]) (by simp [results, Tryz.results12, go_sem]) rfl ⟨rfl, hx0.trans hx1⟩
end Go.Proofs.YtmdpdgldmedebaaGreatDoor

namespace Go.Proofs.YtmdpdgldmedebaaGreatDoor
set_option linter.unusedSimpArgs false
set_option linter.unusedVariables false
open Go.RowKit

set_option maxHeartbeats 12800000 in
set_option maxRecDepth 10000 in
theorem sameValue_true : ∀ (k m : Nat) (v : ValueM) (ids l ids' l' : SV) (w : World), SmallV k v → ValueAt k w [.int .i64 v.kind, .int .i64 v.n, .string v.s, .slice ids.a ids.len ids.cap, .slice l.a l.len l.cap] v → ValueAt m w [.int .i64 v.kind, .int .i64 v.n, .string v.s, .slice ids'.a ids'.len ids'.cap, .slice l'.a l'.len l'.cap] v →
    Calls Tryz.prog 14 #[.agg #[.int .i64 v.kind, .int .i64 v.n, .string v.s, .slice ids.a ids.len ids.cap, .slice l.a l.len l.cap], .agg #[.int .i64 v.kind, .int .i64 v.n, .string v.s, .slice ids'.a ids'.len ids'.cap, .slice l'.a l'.len l'.cap]] w fun e w' => e = .returned (.bool true) ∧ Ext w w' := by
  intro k
  induction k with
  | zero => intro _ _ _ _ _ _ _ h; exact h.elim
  | succ k ih =>
    intro m v ids l ids' l' w hsv hv hv'
    obtain ⟨i1, l1, he, hids, hl, _, _⟩ := hv
    simp only [List.cons.injEq, Value.slice.injEq, and_true, true_and] at he
    obtain ⟨⟨e1, e2, e3⟩, e4, e5, e6⟩ := he
    obtain rfl : l = l1 := by cases l; cases l1; simp_all
    obtain rfl : ids = i1 := by cases ids; cases i1; simp_all
    clear e1 e2 e3 e4 e5 e6
    obtain ⟨i1, l1, he, hids', hl', _, _⟩ := hv'.opens
    simp only [List.cons.injEq, Value.slice.injEq, and_true, true_and] at he
    obtain ⟨⟨e1, e2, e3⟩, e4, e5, e6⟩ := he
    obtain rfl : l' = l1 := by cases l'; cases l1; simp_all
    obtain rfl : ids' = i1 := by cases ids'; cases i1; simp_all
    clear e1 e2 e3 e4 e5 e6 hv'
    obtain ⟨_, hin, hln, hall⟩ := hsv
    obtain ⟨ia, il, ic⟩ := ids
    obtain ⟨la, ll, lc⟩ := l
    obtain ⟨ja, jl, jc⟩ := ids'
    obtain ⟨ma, ml, mc⟩ := l'
    have a1 := hids.1
    have a2 := hl.1
    have a3 := hids'.1
    have a4 := hl'.1
    simp only at a1 a2 a3 a4
    subst a1 a2 a3 a4
    obtain ⟨vk, vn, vs, vids, vl⟩ := v
    simp only at hids hl hids' hl' hin hln hall
    show Calls Tryz.prog 14 #[.agg #[.int .i64 vk, .int .i64 vn, .string vs, .slice ia vids.length ic, .slice la vl.length lc], .agg #[.int .i64 vk, .int .i64 vn, .string vs, .slice ja vids.length jc, .slice ma vl.length mc]] w _
    have Hids := hide hids
    have Hl := hide hl
    have Hids' := hide hids'
    have Hl' := hide hl'
    have Hall := hide hall
    obtain ⟨w0, hw0⟩ : ∃ w0, w0 = (w.alloc (.cells #[.int .i64 vk, .int .i64 vn, .string vs, .slice ia vids.length ic, .slice la vl.length lc] 28)).alloc (.cells #[.int .i64 vk, .int .i64 vn, .string vs, .slice ja vids.length jc, .slice ma vl.length mc] 28) := ⟨_, rfl⟩
    obtain ⟨hx0, hz, r0, r1⟩ := heaps2 hw0
    have HW0 := hide hw0
    clear hw0 hids hl hids' hl' hall
    obtain ⟨p0, p1, p2, p3, p4, _⟩ := row5 r0
    obtain ⟨q0, q1, q2, q3, q4, _⟩ := row5 r1
    have hii : vids.length ≤ 9223372036854775807 := by omega
    have hli : vl.length ≤ 9223372036854775807 := by omega
    go_enter Tryz.func14, Tryz.ntmps14
    go_wp2
    rw [← unhide HW0]
    go_loopw [47] (fun i wr => ∃ j : Nat, j ≤ vids.length ∧ i = .int .i64 j ∧ Ext w0 wr) (fun i _ => vids.length - (intOf i).toNat)
    case atStart => exact ⟨0, by omega, rfl, Ext.refl _⟩
    case round =>
      obtain ⟨j, hj, rfl, hxr⟩ := hrel
      have hEr := hx0.trans hxr
      have c3 := hxr.cell p3
      have d3 := hxr.cell q3
      by_cases hlt : j < vids.length
      · obtain ⟨ib, io, cs, hia, hr, rfl⟩ := (unhide Hids).2 j vids[j] (by simp [hlt])
        obtain ⟨jb, jo, cs2, hja, hr2, rfl⟩ := (unhide Hids').2 j vids[j] (by simp [hlt])
        simp only at hia hja
        subst hia hja
        have ci := hEr.cell (hr 0 _ rfl)
        have di := hEr.cell (hr2 0 _ rfl)
        rw [Nat.mul_one, Nat.add_zero] at ci di
        generalize vids[j] = id at *
        clear hr hr2
        go_wp2_with fail
        go_quiet (fail)
        go_wp2
        exact ⟨⟨j + 1, by omega, by go_num, hxr.drewN _⟩, by simp [intOf]; omega⟩
      · have c4 := hxr.cell p4
        clear c3 d3
        go_wp2
        go_loopw [65] (fun i wr => ∃ j : Nat, j ≤ vl.length ∧ i = .int .i64 j ∧ Ext w0 wr) (fun i _ => vl.length - (intOf i).toNat)
        case atStart => exact ⟨0, by omega, rfl, hxr⟩
        case round =>
          clear hxr hEr c4
          obtain ⟨j, hj, rfl, hxr⟩ := hrel
          have hEr := hx0.trans hxr
          have c4 := hxr.cell p4
          have d4 := hxr.cell q4
          by_cases hlt : j < vl.length
          · obtain ⟨xb, xo, cs, hla, hr, hxv⟩ := (unhide Hl).2 j vl[j] (by simp [hlt])
            obtain ⟨yb, yo, cs2, hma, hr2, hyv⟩ := (unhide Hl').2 j vl[j] (by simp [hlt])
            simp only at hla hma
            subst hla hma
            obtain ⟨xi, xl, rfl, _, _, _, _⟩ := hxv.opens
            obtain ⟨yi, yl, rfl, _, _, _, _⟩ := hyv.opens
            obtain ⟨x0, x1, x2, x3, x4⟩ := range5 (hEr.range hr)
            obtain ⟨y0, y1, y2, y3, y4⟩ := range5 (hEr.range hr2)
            have hsx := unhide Hall vl[j] (List.getElem_mem hlt)
            have Hxv := hide (hxv.ext hEr)
            have Hyv := hide (hyv.ext hEr)
            have hji : (j : Int) < (vl.length : Int) := by omega
            generalize vl[j] = x at *
            clear hr hr2 hxv hyv
            have hS0 : Ext wr wr.drew := (Ext.refl wr).drew
            go_wp2_with fail
            refine wp_region_X (fun w' => Ext wr w') (fun _ => false) (by kernel_rfl) ?_
            refine wpAnyX_take (i := 0) (v := .pointer (some ⟨w.heap.size, 4, none⟩)) rfl (by kernel_rfl) (by kernel_rfl) (fun _ _ _ h => h) (.inl ⟨rfl, fun w' hS => by simp [execOp, go_sem]⟩) (hS0) ?_
            simp only [Act.put, List.getElem_toArray, List.getElem_cons_zero, List.getElem_cons_succ, List.setIfInBounds_toArray, List.set_cons_succ, List.set_cons_zero]
            refine wpAnyX_take (i := 1) (v := .slice (some ⟨xb, xo, none⟩) vl.length lc) rfl (by kernel_rfl) (by kernel_rfl) (fun _ _ _ h => h) (.inl ⟨rfl, fun w' hS => by simp [execOp, go_sem, hS.cell c4]⟩) (hS0) ?_
            simp only [Act.put, List.getElem_toArray, List.getElem_cons_zero, List.getElem_cons_succ, List.setIfInBounds_toArray, List.set_cons_succ, List.set_cons_zero]
            refine wpAnyX_take (i := 2) (v := .int .i64 j) rfl (by kernel_rfl) (by kernel_rfl) (fun _ _ _ h => h) (.inl ⟨rfl, fun w' hS => by simp [execOp, go_sem]⟩) (hS0) ?_
            simp only [Act.put, List.getElem_toArray, List.getElem_cons_zero, List.getElem_cons_succ, List.setIfInBounds_toArray, List.set_cons_succ, List.set_cons_zero]
            refine wpAnyX_take (i := 3) (v := .pointer (some ⟨xb, xo + j * 5, none⟩)) rfl (by kernel_rfl) (by kernel_rfl) (fun _ _ _ h => h) (.inl ⟨rfl, fun w' hS => by simp [execOp, go_sem, hji, hlt]⟩) (hS0) ?_
            simp only [Act.put, List.getElem_toArray, List.getElem_cons_zero, List.getElem_cons_succ, List.setIfInBounds_toArray, List.set_cons_succ, List.set_cons_zero]
            refine wpAnyX_take (i := 4) (v := .agg #[.int .i64 x.kind, .int .i64 x.n, .string x.s, .slice xi.a xi.len xi.cap, .slice xl.a xl.len xl.cap]) rfl (by kernel_rfl) (by kernel_rfl) (fun _ _ _ h => h) (.inl ⟨rfl, fun w' hS => by simp [execOp, go_sem, hS.cell x0, hS.cell x1, hS.cell x2, hS.cell x3, hS.cell x4]⟩) (hS0) ?_
            simp only [Act.put, List.getElem_toArray, List.getElem_cons_zero, List.getElem_cons_succ, List.setIfInBounds_toArray, List.set_cons_succ, List.set_cons_zero]
            refine wpAnyX_take (i := 5) (v := .pointer (some ⟨w.heap.size + 1, 4, none⟩)) rfl (by kernel_rfl) (by kernel_rfl) (fun _ _ _ h => h) (.inl ⟨rfl, fun w' hS => by simp [execOp, go_sem]⟩) (hS0) ?_
            simp only [Act.put, List.getElem_toArray, List.getElem_cons_zero, List.getElem_cons_succ, List.setIfInBounds_toArray, List.set_cons_succ, List.set_cons_zero]
            refine wpAnyX_take (i := 6) (v := .slice (some ⟨yb, yo, none⟩) vl.length mc) rfl (by kernel_rfl) (by kernel_rfl) (fun _ _ _ h => h) (.inl ⟨rfl, fun w' hS => by simp [execOp, go_sem, hS.cell d4]⟩) (hS0) ?_
            simp only [Act.put, List.getElem_toArray, List.getElem_cons_zero, List.getElem_cons_succ, List.setIfInBounds_toArray, List.set_cons_succ, List.set_cons_zero]
            refine wpAnyX_take (i := 7) (v := .int .i64 j) rfl (by kernel_rfl) (by kernel_rfl) (fun _ _ _ h => h) (.inl ⟨rfl, fun w' hS => by simp [execOp, go_sem]⟩) (hS0) ?_
            simp only [Act.put, List.getElem_toArray, List.getElem_cons_zero, List.getElem_cons_succ, List.setIfInBounds_toArray, List.set_cons_succ, List.set_cons_zero]
            refine wpAnyX_take (i := 8) (v := .pointer (some ⟨yb, yo + j * 5, none⟩)) rfl (by kernel_rfl) (by kernel_rfl) (fun _ _ _ h => h) (.inl ⟨rfl, fun w' hS => by simp [execOp, go_sem, hji, hlt]⟩) (hS0) ?_
            simp only [Act.put, List.getElem_toArray, List.getElem_cons_zero, List.getElem_cons_succ, List.setIfInBounds_toArray, List.set_cons_succ, List.set_cons_zero]
            refine wpAnyX_take (i := 9) (v := .agg #[.int .i64 x.kind, .int .i64 x.n, .string x.s, .slice yi.a yi.len yi.cap, .slice yl.a yl.len yl.cap]) rfl (by kernel_rfl) (by kernel_rfl) (fun _ _ _ h => h) (.inl ⟨rfl, fun w' hS => by simp [execOp, go_sem, hS.cell y0, hS.cell y1, hS.cell y2, hS.cell y3, hS.cell y4]⟩) (hS0) ?_
            simp only [Act.put, List.getElem_toArray, List.getElem_cons_zero, List.getElem_cons_succ, List.setIfInBounds_toArray, List.set_cons_succ, List.set_cons_zero]
            refine wpAnyX_one (j := 10) rfl (by kernel_rfl) rfl fun K hK => ?_
            go_wp2_with fail
            refine (ih m x xi xl yi yl _ hsx ((unhide Hxv).ext hS0) ((unhide Hyv).ext hS0)).mono ?_
            rintro e w2 ⟨rfl, hx2⟩
            have hS2 : Ext wr w2 := hS0.trans hx2
            go_wp2
            refine hK.out _ _ (hS2) ?_
            clear hK K
            refine wpAnyX_one (j := 11) rfl (by kernel_rfl) rfl fun K hK => ?_
            go_wp2
            refine hK.out _ _ (hS2) ?_
            clear hK K
            refine wpAnyX_end [] [] rfl (by intro j i hj; simp at hj) (by kernel_rfl) (by intro i hi; simp at hi) fun K hK => ?_
            go_wp2
            refine hK.out _ _ ?_
            clear hK K
            go_wp2
            exact ⟨⟨j + 1, by omega, by go_num, hxr.trans hS2⟩, by simp [intOf]; omega⟩
          · go_wp2
            go_ret
            exact ⟨rfl, hEr⟩
end Go.Proofs.YtmdpdgldmedebaaGreatDoor

namespace Go.Proofs.YtmdpdgldmedebaaGreatDoor
set_option linter.unusedSimpArgs false
set_option linter.unusedVariables false
open Go.RowKit

theorem leastFold_zero (g : FieldM → Int) (hg : ∀ f, 0 ≤ g f) : ∀ (l : List FieldM) (acc : Int), leastFold g l acc ≠ 0 → ∀ f ∈ l, f.rule = 1 → g f ≠ 0
  | [], _, _, f, hf, _ => by cases hf
  | x :: r, acc, h, f, hf, hr => by
    rw [leastFold] at h
    by_cases hx : (x.rule == 1) = false
    · rw [if_pos hx] at h
      rcases List.mem_cons.1 hf with rfl | hf
      · rw [hr] at hx; cases hx
      · exact leastFold_zero g hg r acc h f hf hr
    · rw [if_neg hx] at h
      by_cases hz : g x = 0
      · rw [if_pos hz] at h; exact absurd rfl h
      · rw [if_neg hz] at h
        rcases List.mem_cons.1 hf with rfl | hf
        · exact hz
        · exact leastFold_zero g hg r _ h f hf hr
/-- What a good book's field names is there. -/
theorem good_type {ts : BookM} {f : FieldM} (hg : goodFieldM ts f = true) (hk : f.kind = 4 ∨ f.kind = 5) : ∃ u, findM ts f.type = some u ∧ u.enum = (f.kind == 4) := by
  unfold goodFieldM at hg
  split at hg
  · cases hg
  · rw [if_neg (show ¬ (f.kind = 1 ∨ f.kind = 2 ∨ f.kind = 3) by omega)] at hg
    cases hf : findM ts f.type with
    | none => rw [hf] at hg; cases hg
    | some u =>
      rw [hf] at hg
      exact ⟨u, rfl, by simpa using hg⟩
theorem leOk_of {ts : BookM} (hgood : goodM ts = 0) : ∀ (n : Nat) (name : ByteArray) (t : TypeM), findM ts name = some t → leastM ts n name ≠ 0 → LeOk ts n t
  | 0, _, _, _, h => absurd rfl h
  | n + 1, name, t, hf, h => by
    obtain ⟨_, hall⟩ := goodM_out hgood
    unfold leastM at h
    rw [hf] at h
    simp only at h
    split at h
    · exact absurd rfl h
    · rename_i hno
      have hen : t.enum = false := by cases he : t.enum <;> simp_all
      have hmsg := (hall t (findM_mem hf)).msg hen
      refine ⟨by omega, fun f hfm hr => ⟨fun h4 => ?_, fun h5 => ?_⟩⟩
      · obtain ⟨u, hu, hue⟩ := good_type (hmsg.2.2.1 f hfm) (.inl h4)
        rw [hu]
        have : u.enum = true := by rw [hue, h4]; rfl
        exact ((hall u (findM_mem hu)).enum this).2.2.1
      · obtain ⟨u, hu, _⟩ := good_type (hmsg.2.2.1 f hfm) (.inr h5)
        rw [hu]
        have hnz := leastFold_zero (fun f => if f.kind = 5 then leastM ts n f.type else 1) (fun f => by show 0 ≤ (if f.kind = 5 then leastM ts n f.type else 1); split; exact (leastM_bd ts n f.type).1; omega) t.fields 1 h f hfm hr
        simp only [h5, if_true] at hnz
        exact leOk_of hgood n f.type u hu hnz
/-- The message of a good book: its least can be made. -/
theorem msg_le {ts : BookM} {name : ByteArray} (h : msgE ts name = 0) : LeOk ts 4 (msgT ts name) := by
  obtain ⟨hg, hf, he⟩ := msg_good h
  have := goodM_least hg _ (findM_mem hf) he
  rw [find_name hf] at this
  exact leOk_of hg 4 name _ hf (by omega)
theorem leOk_type {ts : BookM} {name : ByteArray} {t : TypeM} (hg : goodM ts = 0) (hf : findM ts name = some t) (he : t.enum = false) : LeOk ts 4 t := by
  have := goodM_least hg _ (findM_mem hf) he
  rw [find_name hf] at this
  exact leOk_of hg 4 name _ hf (by omega)
end Go.Proofs.YtmdpdgldmedebaaGreatDoor

