import Derived.Test.YtmghhakebhgckaaGreatDoorD7g
import Derived.Test.YtmghhakebhgckaaGreatDoorG6
import Derived.Deep.DeepCutAuto
namespace Go.Proofs.YtmghhakebhgckaaGreatDoor
set_option linter.unusedSimpArgs false
set_option linter.unusedVariables false
open Go.RowKit

theorem app_list (a b : ByteArray) : (a ++ b).toList = a.toList ++ b.toList := by rw [bytes_toList, bytes_toList, bytes_toList]; simp
theorem itoa_size {n : Int} (h : -1099511627776 ≤ n ∧ n ≤ 1099511627776) : (itoaB n).size ≤ 14 := by rw [← size_toList]; exact itoa_len14 h
theorem one_take {α : Type} {l : List α} {k : Nat} (hk : k < l.length) (f : α → List UInt8) : (l.take (k + 1)).flatMap f = (l.take k).flatMap f ++ f l[k] := flat_take hk f
theorem itemB_eq (i : ItemM) : itemB i = [32, 32] ++ (itoaB i.n).toList ++ [32] ++ i.name.toList ++ [59, 10] := by unfold itemB lineB; simp

theorem fieldB_eq (f : FieldM) : fieldB f = [32, 32] ++ (itoaB f.id).toList ++ [32] ++ (ruleWordM f).toList ++ [32] ++ (typeWordM f).toList ++ [32] ++ f.name.toList ++ [59, 10] := by unfold fieldB lineB; simp
theorem goneB_eq (l : List Int) (h : 0 < l.length) : goneB l = [32, 32, 103, 111, 110, 101] ++ l.flatMap (fun n => 32 :: (itoaB n).toList) ++ [59, 10] := by
  unfold goneB lineB
  rw [if_pos h, List.flatMap_map]
  simp [bytes_toList]
def ruleS (r : Nat) : ByteArray := if r = 1 then ⟨#[32, 111, 110, 101, 32]⟩ else if r = 2 then ⟨#[32, 109, 97, 121, 98, 101, 32]⟩ else ⟨#[32, 109, 97, 110, 121, 32]⟩
def kindS (k : Nat) (ty : ByteArray) : ByteArray := if k = 1 then ⟨#[98, 111, 111, 108]⟩ else if k = 2 then ⟨#[105, 110, 116]⟩ else if k = 3 then ⟨#[116, 101, 120, 116]⟩ else ty
theorem ruleS_eq (f : FieldM) (r : Nat) (hr : f.rule = (r : Int)) (h1 : 1 ≤ r) (h3 : r ≤ 3) : (ruleS r).toList = 32 :: (ruleWordM f).toList ++ [32] := by
  unfold ruleWordM
  rw [hr]
  have : r = 1 ∨ r = 2 ∨ r = 3 := by omega
  rcases this with rfl | rfl | rfl <;> simp [ruleS, rulesL, bytes_toList]
theorem kindS_eq (f : FieldM) (k : Nat) (hr : f.kind = (k : Int)) (h1 : 1 ≤ k) (h3 : k ≤ 5) : kindS k f.type = typeWordM f := by
  unfold typeWordM
  rw [hr]
  have : k = 1 ∨ k = 2 ∨ k = 3 ∨ k = 4 ∨ k = 5 := by omega
  rcases this with rfl | rfl | rfl | rfl | rfl <;> simp [kindS, kindsL]
theorem ruleS_size (r : Nat) : (ruleS r).size ≤ 7 := by
  unfold ruleS
  split
  · decide
  · split <;> decide
theorem kindS_size (k : Nat) (ty : ByteArray) : (kindS k ty).size ≤ 4 + ty.size := by
  unfold kindS
  split
  · have : (ByteArray.mk #[98, 111, 111, 108]).size = 4 := by decide
    omega
  · split
    · have : (ByteArray.mk #[105, 110, 116]).size = 3 := by decide
      omega
    · split
      · have : (ByteArray.mk #[116, 101, 120, 116]).size = 4 := by decide
        omega
      · omega
theorem rule_cell {w : World} {g : Nat} {t : TypeId} (hb : w.heap[g]? = some (.cells #[.string ⟨#[32]⟩, .string ⟨#[32, 111, 110, 101, 32]⟩, .string ⟨#[32, 109, 97, 121, 98, 101, 32]⟩, .string ⟨#[32, 109, 97, 110, 121, 32]⟩] t (0, 0))) (r : Nat) (h1 : 1 ≤ r) (h3 : r ≤ 3) : w.cell? ⟨g, r, none⟩ = some (.string (ruleS r)) := by
  rw [cell_of_row w g r _ t _ hb]
  have : r = 1 ∨ r = 2 ∨ r = 3 := by omega
  rcases this with rfl | rfl | rfl <;> rfl
theorem kind_cell {w : World} {g : Nat} {t : TypeId} {ty : ByteArray} (hb : w.heap[g]? = some (.cells #[.string ⟨#[]⟩, .string ⟨#[98, 111, 111, 108]⟩, .string ⟨#[105, 110, 116]⟩, .string ⟨#[116, 101, 120, 116]⟩, .string ty, .string ty] t (0, 0))) (k : Nat) (h1 : 1 ≤ k) (h3 : k ≤ 5) : w.cell? ⟨g, k, none⟩ = some (.string (kindS k ty)) := by
  rw [cell_of_row w g k _ t _ hb]
  have : k = 1 ∨ k = 2 ∨ k = 3 ∨ k = 4 ∨ k = 5 := by omega
  rcases this with rfl | rfl | rfl | rfl | rfl <;> rfl
def goneK (l : List Int) (j : Nat) : List UInt8 := if j = 0 then [] else [32, 32, 103, 111, 110, 101] ++ (l.take j).flatMap (fun n => 32 :: (itoaB n).toList)
theorem goneK_zero (l : List Int) : goneK l 0 = [] := rfl
theorem goneK_succ {l : List Int} {j : Nat} (h : j < l.length) : goneK l (j + 1) = (if j = 0 then [32, 32, 103, 111, 110, 101] else goneK l j) ++ 32 :: (itoaB l[j]).toList := by
  unfold goneK
  rw [if_neg (by omega), one_take h]
  by_cases h0 : j = 0
  · subst h0; simp
  · simp [h0]
theorem goneK_le {l : List Int} {j : Nat} (h : j ≤ l.length) : (goneK l j).length ≤ (goneB l).length := by
  unfold goneK
  split
  · simp
  · have := take_flat_le l (fun n => 32 :: (itoaB n).toList) j
    rw [goneB_eq l (by omega)]
    simp only [List.length_append]
    omega
theorem goneK_end {l : List Int} (h : 0 < l.length) : goneK l l.length ++ [59, 10] = goneB l := by
  unfold goneK
  rw [goneB_eq l h, if_neg (by omega), List.take_length]
theorem goneB_none {l : List Int} (h : ¬ 0 < l.length) : goneB l = [] := by
  unfold goneB; rw [if_neg h]
def printS (ts : BookM) : ByteArray := if goodM ts = 0 then ⟨(bookB ts).toArray⟩ else ⟨#[]⟩
theorem printS_bad {ts : BookM} (h : ¬ goodM ts = 0) : printS ts = ⟨#[]⟩ := if_neg h
theorem printS_ok {ts : BookM} (h : goodM ts = 0) {x : ByteArray} (hx : x.toList = bookB ts) : printS ts = x := by
  unfold printS; rw [if_pos h]
  apply toList_inj
  rw [hx, bytes_toList]

set_option maxHeartbeats 12800000 in
set_option maxRecDepth 20000 in
theorem printBook_any (s : SV) (ts : BookM) (hn : ts.Small) (w : World) (hs : BookAt w s ts) (hm : MaxAt w) :
    Calls Tryz.prog 25 #[.agg #[.slice s.a s.len s.cap]] w fun e w' => e = .returned (.tuple #[.string (printS ts), .int .i64 (goodM ts)]) ∧ Ext w w' := by
  have hlen := hn.1
  obtain ⟨a, n, cap⟩ := s
  have hl := hs.1
  simp only at hl
  subst hl
  show Calls Tryz.prog 25 #[.agg #[.slice a ts.length cap]] w _
  obtain ⟨w0, hw0⟩ : ∃ w0, w0 = w.alloc (.cells #[.slice a ts.length cap] 24) := ⟨_, rfl⟩
  have hx0 : Ext w w0 := by rw [hw0]; exact (Ext.refl w).alloc _
  have r0 : w0.heap[w.heap.size]? = some (.cells #[.slice a ts.length cap] 24 (0, 0)) := by rw [hw0]; exact heap_alloc_new _ _
  have HW0 := hide hw0
  have p0 : w0.cell? ⟨w.heap.size, 0, none⟩ = some (.slice a ts.length cap) := cell_of_row _ _ 0 _ _ _ r0
  have Hs := hide hs
  have Hn := hide hn
  have Hm := hide hm
  clear hw0 hs hn hm
  go_enter Tryz.func25, Tryz.ntmps25
  go_wp2_with fail
  rw [← unhide HW0]
  refine (goodBook_any ⟨a, ts.length, cap⟩ ts (unhide Hn) w0 ((unhide Hs).ext hx0) ((unhide Hm).ext hx0)).mono ?_
  rintro e w1 ⟨rfl, hx1⟩
  have hE1 := hx0.trans hx1
  by_cases hg : goodM ts = 0
  case neg =>
    have Hg := hide hg
    have hgb : (goodM ts != 0) = true := by simpa using hg
    clear hg
    go_wp2
    refine bodyPost_ret (v := .tuple #[.string ⟨#[]⟩, .int .i64 (goodM ts)]) (by simp [results, Tryz.results25, go_sem]) rfl ⟨by rw [printS_bad (unhide Hg)], hE1⟩
  have Hg := hide hg
  have hlen4 : (bookB ts).length ≤ 4000 := len_ok ts hg
  have hpr := good_pr hg
  have Hpr := hide hpr
  have hi12 : Hid (∀ t ∈ ts, ∀ x ∈ t.items, -1099511627776 ≤ x.n ∧ x.n ≤ 1099511627776) := fun t ht x hx => by
    obtain ⟨_, _, h3⟩ := goodM_out hg
    have g := h3 t ht
    cases he : t.enum
    · rw [(g.msg he).1] at hx; cases hx
    · have := (risingL_out (g.enum he).2.2.2.2.2).2 x.n (List.mem_map.2 ⟨x, hx, rfl⟩)
      exact this
  have hf12 : Hid (∀ t ∈ ts, ∀ f ∈ t.fields, f.type.size ≤ 12) := fun t ht f hf => by
    obtain ⟨_, _, h3⟩ := goodM_out hg
    have g := h3 t ht
    cases he : t.enum
    · exact type_size ((g.msg he).2.2.1 f hf) (fun t ht => (h3 t ht).name)
    · rw [(g.enum he).1] at hf; cases hf
  have p1 := hx1.cell p0
  have hgb : (goodM ts != 0) = false := by simp [hg]
  clear hg hpr
  go_wp2
  go_loopw [5, 22] (fun vs i wr => ∃ (k : Nat) (x : ByteArray), k ≤ ts.length ∧ i = .int .i64 k ∧ vs = .string x ∧ x.toList = (ts.take k).flatMap typeB ∧ Ext w0 wr) (fun _ i _ => ts.length - (intOf i).toNat)
  case atStart => exact ⟨0, ⟨#[]⟩, by omega, rfl, rfl, by simp [bytes_toList], hx1⟩
  case round =>
    obtain ⟨k, x, hk, rfl, rfl, hx, hxr⟩ := hrel
    have hEr := hx0.trans hxr
    by_cases hlt : k < ts.length
    · obtain ⟨b, o, cs, ea, hr, tv, rfl, htv⟩ := (unhide Hs).2 k ts[k] (by simp [hlt])
      simp only at ea
      subst ea
      obtain ⟨c0, c1, c2, c3, c4⟩ := range5 (hEr.range hr)
      have hsm := (unhide Hn).2 ts[k] (List.getElem_mem hlt)
      have hpk := unhide Hpr ts[k] (List.getElem_mem hlt)
      have hik := hi12.out ts[k] (List.getElem_mem hlt)
      have hfk := hf12.out ts[k] (List.getElem_mem hlt)
      have htot : ((ts.take k).flatMap typeB).length + (typeB ts[k]).length ≤ 4000 := by
        have h1 := take_flat_le ts typeB (k + 1)
        rw [one_take hlt, List.length_append] at h1
        have h2 : (ts.flatMap typeB).length ≤ 4000 := hlen4
        omega
      have hnext : Hid ((ts.take (k + 1)).flatMap typeB = (ts.take k).flatMap typeB ++ typeB ts[k]) := one_take hlt typeB
      have hxs : x.size = ((ts.take k).flatMap typeB).length := by rw [← size_toList, hx]
      generalize (ts.take k).flatMap typeB = A at *
      generalize ts[k] = t at *
      obtain ⟨nm, en, ⟨fa, fl, fc⟩, ⟨ga, gl, gc⟩, ⟨ia, il, ic⟩⟩ := tv
      have e1 := htv.name
      have e2 := htv.enum
      have e3 := htv.fields
      have e4 := htv.gone
      have e5 := htv.items
      have l3 := e3.1
      have l4 := e4.1
      have l5 := e5.1
      simp only at e1 e2 l3 l4 l5 c0 c1 c2 c3 c4
      subst l3 l4 l5
      have hnms : nm.size ≤ 1048576 := by rw [e1]; exact hsm.name
      have hxsz : x.size ≤ 4000 := by omega
      have Hen := hide e1
      have Hee := hide e2
      have Hf := hide e3
      have Hgo := hide e4
      have Hi := hide e5
      have Hx := hide hx
      clear htv hr e1 e2 e3 e4 e5 hx
      have hlt1 : (typeB t).length = (headB t).length + (t.items.flatMap itemB).length + (t.fields.flatMap fieldB).length + (goneB t.gone).length + 2 := by
        unfold typeB; simp only [List.length_append, List.length_cons, List.length_nil]
      have hE0 : Ext wr (wr.alloc (.cells #[.string nm, .bool en, .slice fa t.fields.length fc, .slice ga t.gone.length gc, .slice ia t.items.length ic] 30)) := (Ext.refl wr).alloc _
      rename World => wo
      obtain ⟨W1, hW1⟩ : ∃ W1, W1 = wo.alloc (.cells #[.string nm, .bool en, .slice fa t.fields.length fc, .slice ga t.gone.length gc, .slice ia t.items.length ic] 30) := ⟨_, rfl⟩
      have hxW1 : Ext wo W1 := by rw [hW1]; exact hE0
      have rW1 : W1.heap[wo.heap.size]? = some (.cells #[.string nm, .bool en, .slice fa t.fields.length fc, .slice ga t.gone.length gc, .slice ia t.items.length ic] 30 (0, 0)) := by rw [hW1]; exact heap_alloc_new _ _
      have HW1 := hide hW1
      clear hW1 hE0
      obtain ⟨t0, t1, t2, t3, t4, _⟩ := row5 rW1
      go_upto_if 27 with fail
      rw [← unhide HW1]
      go_cut [5] (fun s5 wx => wx = W1 ∧ ∃ y : ByteArray, s5 = .string y ∧ Hid (y.toList = A ++ headB t))
      case first =>
        rename_i J0 K0 hJ0 hK0
        cases en
        · go_wp2
          go_meet
          case rel =>
            refine ⟨rfl, _, rfl, ?_⟩
            unfold Hid headB
            rw [app_list, app_list, app_list, unhide Hx, ← unhide Hee, unhide Hen]
            simp [bytes_toList]
        · go_wp2
          go_meet
          case rel =>
            refine ⟨rfl, _, rfl, ?_⟩
            unfold Hid headB
            rw [app_list, app_list, app_list, unhide Hx, ← unhide Hee, unhide Hen]
            simp [bytes_toList]
      case rest =>
      obtain ⟨hwc, y, rfl, HY⟩ := hcut
      subst hwc
      have hil := hsm.items
      go_wp2
      go_loopw [5, 43] (fun vs i wr2 => ∃ (j : Nat) (z : ByteArray), j ≤ t.items.length ∧ i = .int .i64 j ∧ vs = .string z ∧ z.toList = A ++ headB t ++ (t.items.take j).flatMap itemB ∧ Ext wc wr2) (fun _ i _ => t.items.length - (intOf i).toNat)
      case atStart => exact ⟨0, y, by omega, rfl, rfl, by rw [unhide HY]; simp, Ext.refl _⟩
      case round =>
        obtain ⟨j, z, hj, rfl, rfl, hz, hx2⟩ := hrel
        have hE2 := (hEr.trans hxW1).trans hx2
        have hB2 := hx2.cell t4
        have hzs : z.size = A.length + (headB t).length + ((t.items.take j).flatMap itemB).length := by rw [← size_toList, hz, List.length_append, List.length_append]
        have htl := take_flat_le t.items itemB j
        have hz4 : z.size ≤ 4000 := by omega
        clear hzs
        by_cases hlt2 : j < t.items.length
        · obtain ⟨ib, io, cs, eia, hri, rfl⟩ := (unhide Hi).2 j t.items[j] (by simp [hlt2])
          simp only at eia
          subst eia
          obtain ⟨i0, i1⟩ := range2 (hE2.range hri)
          have hin := hsm.iname t.items[j] (List.getElem_mem hlt2)
          have hir := hik t.items[j] (List.getElem_mem hlt2)
          have hstep : Hid ((t.items.take (j + 1)).flatMap itemB = (t.items.take j).flatMap itemB ++ itemB t.items[j]) := one_take hlt2 itemB
          generalize t.items[j] = it at *
          have hds := itoa_size hir
          have Hz := hide hz
          clear hri hz
          go_wp2_with fail
          obtain ⟨W, hW⟩ : ∃ W, W = wr.alloc (.cells #[.string it.name, .int .i64 it.n] 55) := ⟨_, rfl⟩
          have hxW : Ext wr W := by rw [hW]; exact (Ext.refl wr).alloc _
          have rW : W.heap[wr.heap.size]? = some (.cells #[.string it.name, .int .i64 it.n] 55 (0, 0)) := by rw [hW]; exact heap_alloc_new _ _
          rw [← hW]
          clear hW
          have q0 : W.cell? ⟨wr.heap.size, 0, none⟩ = some (.string it.name) := cell_of_row _ _ 0 _ _ _ rW
          have q1 : W.cell? ⟨wr.heap.size, 1, none⟩ = some (.int .i64 it.n) := cell_of_row _ _ 1 _ _ _ rW
          have hS0 : Ext W W.drew := (Ext.refl W).drew
          refine wp_region_X (fun w' => Ext W w') (fun _ => false) (by kernel_rfl) ?_
          refine wpAnyX_take (i := 0) (v := .string z) rfl (by kernel_rfl) (by kernel_rfl) (fun _ _ _ h => h) (.inl ⟨rfl, fun w' hS => by simp [execOp, go_sem]⟩) (hS0) ?_
          simp only [Act.put, List.getElem_toArray, List.getElem_cons_zero, List.getElem_cons_succ, List.setIfInBounds_toArray, List.set_cons_succ, List.set_cons_zero]
          refine wpAnyX_take (i := 1) (v := .pointer (some ⟨wr.heap.size, 1, none⟩)) rfl (by kernel_rfl) (by kernel_rfl) (fun _ _ _ h => h) (.inl ⟨rfl, fun w' hS => by simp [execOp, go_sem]⟩) (hS0) ?_
          simp only [Act.put, List.getElem_toArray, List.getElem_cons_zero, List.getElem_cons_succ, List.setIfInBounds_toArray, List.set_cons_succ, List.set_cons_zero]
          refine wpAnyX_take (i := 2) (v := .int .i64 it.n) rfl (by kernel_rfl) (by kernel_rfl) (fun _ _ _ h => h) (.inl ⟨rfl, fun w' hS => by simp [execOp, go_sem, hS.cell q1]⟩) (hS0) ?_
          simp only [Act.put, List.getElem_toArray, List.getElem_cons_zero, List.getElem_cons_succ, List.setIfInBounds_toArray, List.set_cons_succ, List.set_cons_zero]
          refine wpAnyX_take (i := 6) (v := .pointer (some ⟨wr.heap.size, 0, none⟩)) rfl (by kernel_rfl) (by kernel_rfl) (fun _ _ _ h => h) (.inl ⟨rfl, fun w' hS => by simp [execOp, go_sem]⟩) (hS0) ?_
          simp only [Act.put, List.getElem_toArray, List.getElem_cons_zero, List.getElem_cons_succ, List.setIfInBounds_toArray, List.set_cons_succ, List.set_cons_zero]
          refine wpAnyX_take (i := 7) (v := .string it.name) rfl (by kernel_rfl) (by kernel_rfl) (fun _ _ _ h => h) (.inl ⟨rfl, fun w' hS => by simp [execOp, go_sem, hS.cell q0]⟩) (hS0) ?_
          simp only [Act.put, List.getElem_toArray, List.getElem_cons_zero, List.getElem_cons_succ, List.setIfInBounds_toArray, List.set_cons_succ, List.set_cons_zero]
          refine wpAnyX_one (j := 3) rfl (by kernel_rfl) rfl fun K hK => ?_
          go_wp2_with fail
          refine (decimal_any it.n hir.1 hir.2 _).mono ?_
          rintro e w5 ⟨rfl, rfl⟩
          generalize hdd : itoaB it.n = d at *
          have Hdd := hide hdd
          clear hdd
          go_wp2
          refine hK.out _ _ (hS0) ?_
          clear hK K
          refine wpAnyX_one (j := 4) rfl (by kernel_rfl) rfl fun K hK => ?_
          go_wp2
          refine hK.out _ _ (hS0) ?_
          clear hK K
          refine wpAnyX_one (j := 5) rfl (by kernel_rfl) rfl fun K hK => ?_
          go_wp2
          refine hK.out _ _ (hS0) ?_
          clear hK K
          refine wpAnyX_one (j := 8) rfl (by kernel_rfl) rfl fun K hK => ?_
          go_wp2
          refine hK.out _ _ (hS0) ?_
          clear hK K
          refine wpAnyX_one (j := 9) rfl (by kernel_rfl) rfl fun K hK => ?_
          go_wp2
          refine hK.out _ _ (hS0) ?_
          clear hK K
          refine wpAnyX_one (j := 10) rfl (by kernel_rfl) rfl fun K hK => ?_
          go_wp2
          refine hK.out _ _ (hS0) ?_
          clear hK K
          refine wpAnyX_one (j := 11) rfl (by kernel_rfl) rfl fun K hK => ?_
          go_wp2
          refine hK.out _ _ (hS0) ?_
          clear hK K
          refine wpAnyX_end [] [] rfl (by intro j i hj; simp at hj) (by kernel_rfl) (by intro i hi; simp at hi) fun K hK => ?_
          go_wp2
          refine hK.out _ _ ?_
          clear hK K
          have Hnew : Hid ((z ++ ((⟨#[32, 32]⟩ : ByteArray) ++ d ++ ⟨#[32]⟩ ++ it.name ++ ⟨#[59, 10]⟩)).toList = A ++ headB t ++ (t.items.take (j + 1)).flatMap itemB) := by
            unfold Hid
            rw [unhide hstep, itemB_eq, app_list, app_list, app_list, app_list, app_list, unhide Hz, unhide Hdd]
            simp [bytes_toList]
          go_wp2
          exact ⟨⟨j + 1, _, by omega, by go_num, rfl, unhide Hnew, hx2.trans (hxW.trans hS0)⟩, by simp [intOf]; omega⟩
        · rw [List.take_of_length_le (by omega)] at hz
          have HZ := hide hz
          have hB3 := hx2.cell t2
          clear hz hB2
          go_wp2
          go_loopw [5, 62] (fun vs i wr2 => ∃ (j : Nat) (z : ByteArray), j ≤ t.fields.length ∧ i = .int .i64 j ∧ vs = .string z ∧ z.toList = A ++ headB t ++ t.items.flatMap itemB ++ (t.fields.take j).flatMap fieldB ∧ Ext wc wr2) (fun _ i _ => t.fields.length - (intOf i).toNat)
          case atStart => exact ⟨0, z, by omega, rfl, rfl, by rw [unhide HZ]; simp, hx2⟩
          case round =>
            clear HZ hB3 hx2 hE2 hz4 htl
            obtain ⟨j, z, hj, rfl, rfl, hz, hx2⟩ := hrel
            have hE2 := (hEr.trans hxW1).trans hx2
            have hzs : z.size = A.length + (headB t).length + (t.items.flatMap itemB).length + ((t.fields.take j).flatMap fieldB).length := by rw [← size_toList, hz, List.length_append, List.length_append, List.length_append]
            have htl := take_flat_le t.fields fieldB j
            have hz4 : z.size ≤ 4000 := by omega
            clear hzs
            by_cases hlt2 : j < t.fields.length
            · obtain ⟨ib, io, cs, eia, hri, rfl⟩ := (unhide Hf).2 j t.fields[j] (by simp [hlt2])
              simp only at eia
              subst eia
              obtain ⟨i0, i1, i2, i3, i4⟩ := range5 (hE2.range hri)
              have hfn := hsm.fname t.fields[j] (List.getElem_mem hlt2)
              have hfl := hsm.fields
              have hft := hfk t.fields[j] (List.getElem_mem hlt2)
              have hfp := hpk.f t.fields[j] (List.getElem_mem hlt2)
              have hstep : Hid ((t.fields.take (j + 1)).flatMap fieldB = (t.fields.take j).flatMap fieldB ++ fieldB t.fields[j]) := one_take hlt2 fieldB
              generalize t.fields[j] = f at *
              obtain ⟨⟨hid0, hid1⟩, ⟨hr1, hr2⟩, hk1, hk2⟩ := hfp
              obtain ⟨r, hr⟩ : ∃ r : Nat, f.rule = (r : Int) := ⟨f.rule.toNat, by omega⟩
              obtain ⟨kn, hkn⟩ : ∃ kn : Nat, f.kind = (kn : Int) := ⟨f.kind.toNat, by omega⟩
              have hds := itoa_size (n := f.id) ⟨by omega, by omega⟩
              have hfe : Hid (fieldB f = [32, 32] ++ (itoaB f.id).toList ++ (ruleS r).toList ++ (kindS kn f.type).toList ++ [32] ++ f.name.toList ++ [59, 10]) := by
                unfold Hid
                rw [fieldB_eq, ruleS_eq f r hr (by omega) (by omega), kindS_eq f kn hkn (by omega) (by omega)]
                simp
              obtain ⟨fid, fnm, fty, fkd, fru⟩ := f
              simp only at hr hkn
              subst hr hkn
              simp only at i0 i1 i2 i3 i4 hfn hft hid0 hid1 hds hfe hstep hr1 hr2 hk1 hk2
              have hrs := ruleS_size r
              have hks := kindS_size kn fty
              have Hz := hide hz
              have hr1' : 1 ≤ r := by omega
              have hr2' : r ≤ 3 := by omega
              have hk1' : 1 ≤ kn := by omega
              have hk2' : kn ≤ 5 := by omega
              clear hri hz
              go_upto_region 19 with fail
              obtain ⟨W, hW⟩ : ∃ W, W = wr.alloc (.cells #[.int .i64 fid, .string fnm, .string fty, .int .i64 (kn : Int), .int .i64 (r : Int)] 34) := ⟨_, rfl⟩
              have hxW : Ext wr W := by rw [hW]; exact (Ext.refl wr).alloc _
              have rW : W.heap[wr.heap.size]? = some (.cells #[.int .i64 fid, .string fnm, .string fty, .int .i64 (kn : Int), .int .i64 (r : Int)] 34 (0, 0)) := by rw [hW]; exact heap_alloc_new _ _
              rw [← hW]
              clear hW
              obtain ⟨q0, q1, q2, q3, q4, _⟩ := row5 rW
              have hxW2 := hx2.trans hxW
              obtain ⟨d, hd⟩ : ∃ d, d = itoaB fid := ⟨_, rfl⟩
              have hdec : ∀ w' : World, Calls Tryz.prog 43 #[.int .i64 fid] w' fun e w'' => e = .returned (.string d) ∧ w'' = w' := fun w' => by rw [hd]; exact decimal_any fid (by omega) (by omega) w'
              rw [← hd] at hds hfe
              clear hd
              have Hnew : Hid ((z ++ ((⟨#[32, 32]⟩ : ByteArray) ++ d ++ ruleS r ++ kindS kn fty ++ ⟨#[32]⟩ ++ fnm ++ ⟨#[59, 10]⟩)).toList = A ++ headB t ++ t.items.flatMap itemB ++ (t.fields.take (j + 1)).flatMap fieldB) := by
                unfold Hid
                rw [unhide hstep, unhide hfe, app_list, app_list, app_list, app_list, app_list, app_list, app_list, unhide Hz]
                simp [bytes_toList]
              refine wp_region_X (fun w' => Ext W w') (fun _ => false) (by kernel_rfl) ?_
              obtain ⟨Wd, hWd⟩ : ∃ Wd, Wd = W.drew := ⟨_, rfl⟩
              have hS0 : Ext W Wd := by rw [hWd]; exact (Ext.refl W).drew
              rw [← hWd]
              clear hWd
              refine wpAnyX_take (i := 0) (v := .string z) rfl (by kernel_rfl) (by kernel_rfl) (fun _ _ _ h => h) (.inl ⟨rfl, fun w' hS => by simp [execOp, go_sem]⟩) (hS0) ?_
              simp only [Act.put, List.getElem_toArray, List.getElem_cons_zero, List.getElem_cons_succ, List.setIfInBounds_toArray, List.set_cons_succ, List.set_cons_zero]
              refine wpAnyX_take (i := 1) (v := .pointer (some ⟨wr.heap.size, 0, none⟩)) rfl (by kernel_rfl) (by kernel_rfl) (fun _ _ _ h => h) (.inl ⟨rfl, fun w' hS => by simp [execOp, go_sem]⟩) (hS0) ?_
              simp only [Act.put, List.getElem_toArray, List.getElem_cons_zero, List.getElem_cons_succ, List.setIfInBounds_toArray, List.set_cons_succ, List.set_cons_zero]
              refine wpAnyX_take (i := 2) (v := .int .i64 fid) rfl (by kernel_rfl) (by kernel_rfl) (fun _ _ _ h => h) (.inl ⟨rfl, fun w' hS => by simp [execOp, go_sem, hS.cell q0]⟩) (hS0) ?_
              simp only [Act.put, List.getElem_toArray, List.getElem_cons_zero, List.getElem_cons_succ, List.setIfInBounds_toArray, List.set_cons_succ, List.set_cons_zero]
              refine wpAnyX_take (i := 6) (v := .pointer (some ⟨wr.heap.size, 4, none⟩)) rfl (by kernel_rfl) (by kernel_rfl) (fun _ _ _ h => h) (.inl ⟨rfl, fun w' hS => by simp [execOp, go_sem]⟩) (hS0) ?_
              simp only [Act.put, List.getElem_toArray, List.getElem_cons_zero, List.getElem_cons_succ, List.setIfInBounds_toArray, List.set_cons_succ, List.set_cons_zero]
              refine wpAnyX_take (i := 7) (v := .int .i64 (r : Int)) rfl (by kernel_rfl) (by kernel_rfl) (fun _ _ _ h => h) (.inl ⟨rfl, fun w' hS => by simp [execOp, go_sem, hS.cell q4]⟩) (hS0) ?_
              simp only [Act.put, List.getElem_toArray, List.getElem_cons_zero, List.getElem_cons_succ, List.setIfInBounds_toArray, List.set_cons_succ, List.set_cons_zero]
              refine wpAnyX_take (i := 11) (v := .pointer (some ⟨wr.heap.size, 2, none⟩)) rfl (by kernel_rfl) (by kernel_rfl) (fun _ _ _ h => h) (.inl ⟨rfl, fun w' hS => by simp [execOp, go_sem]⟩) (hS0) ?_
              simp only [Act.put, List.getElem_toArray, List.getElem_cons_zero, List.getElem_cons_succ, List.setIfInBounds_toArray, List.set_cons_succ, List.set_cons_zero]
              refine wpAnyX_take (i := 12) (v := .string fty) rfl (by kernel_rfl) (by kernel_rfl) (fun _ _ _ h => h) (.inl ⟨rfl, fun w' hS => by simp [execOp, go_sem, hS.cell q2]⟩) (hS0) ?_
              simp only [Act.put, List.getElem_toArray, List.getElem_cons_zero, List.getElem_cons_succ, List.setIfInBounds_toArray, List.set_cons_succ, List.set_cons_zero]
              refine wpAnyX_take (i := 13) (v := .pointer (some ⟨wr.heap.size, 2, none⟩)) rfl (by kernel_rfl) (by kernel_rfl) (fun _ _ _ h => h) (.inl ⟨rfl, fun w' hS => by simp [execOp, go_sem]⟩) (hS0) ?_
              simp only [Act.put, List.getElem_toArray, List.getElem_cons_zero, List.getElem_cons_succ, List.setIfInBounds_toArray, List.set_cons_succ, List.set_cons_zero]
              refine wpAnyX_take (i := 14) (v := .string fty) rfl (by kernel_rfl) (by kernel_rfl) (fun _ _ _ h => h) (.inl ⟨rfl, fun w' hS => by simp [execOp, go_sem, hS.cell q2]⟩) (hS0) ?_
              simp only [Act.put, List.getElem_toArray, List.getElem_cons_zero, List.getElem_cons_succ, List.setIfInBounds_toArray, List.set_cons_succ, List.set_cons_zero]
              refine wpAnyX_take (i := 16) (v := .pointer (some ⟨wr.heap.size, 3, none⟩)) rfl (by kernel_rfl) (by kernel_rfl) (fun _ _ _ h => h) (.inl ⟨rfl, fun w' hS => by simp [execOp, go_sem]⟩) (hS0) ?_
              simp only [Act.put, List.getElem_toArray, List.getElem_cons_zero, List.getElem_cons_succ, List.setIfInBounds_toArray, List.set_cons_succ, List.set_cons_zero]
              refine wpAnyX_take (i := 17) (v := .int .i64 (kn : Int)) rfl (by kernel_rfl) (by kernel_rfl) (fun _ _ _ h => h) (.inl ⟨rfl, fun w' hS => by simp [execOp, go_sem, hS.cell q3]⟩) (hS0) ?_
              simp only [Act.put, List.getElem_toArray, List.getElem_cons_zero, List.getElem_cons_succ, List.setIfInBounds_toArray, List.set_cons_succ, List.set_cons_zero]
              refine wpAnyX_take (i := 22) (v := .pointer (some ⟨wr.heap.size, 1, none⟩)) rfl (by kernel_rfl) (by kernel_rfl) (fun _ _ _ h => h) (.inl ⟨rfl, fun w' hS => by simp [execOp, go_sem]⟩) (hS0) ?_
              simp only [Act.put, List.getElem_toArray, List.getElem_cons_zero, List.getElem_cons_succ, List.setIfInBounds_toArray, List.set_cons_succ, List.set_cons_zero]
              refine wpAnyX_take (i := 23) (v := .string fnm) rfl (by kernel_rfl) (by kernel_rfl) (fun _ _ _ h => h) (.inl ⟨rfl, fun w' hS => by simp [execOp, go_sem, hS.cell q1]⟩) (hS0) ?_
              simp only [Act.put, List.getElem_toArray, List.getElem_cons_zero, List.getElem_cons_succ, List.setIfInBounds_toArray, List.set_cons_succ, List.set_cons_zero]
              have hr3 : (r : Int) < 4 := by omega
              have hk3 : (kn : Int) < 6 := by omega
              refine wpAnyX_three (i := 3) (j := 5) (k := 15) rfl rfl rfl (by kernel_rfl) rfl rfl rfl (fun K hK => ?_) (fun K hK => ?_) (fun K hK => ?_)
              · go_wp2_with fail
                refine (hdec _).mono ?_
                rintro e wz ⟨rfl, hwz⟩
                rw [hwz]
                clear hwz wz
                go_wp2
                refine hK.out _ _ (hS0) ?_
                clear hK K
                refine wpAnyX_take (i := 4) (v := .string ((⟨#[32, 32]⟩ : ByteArray) ++ d)) rfl (by kernel_rfl) (by kernel_rfl) (fun _ _ _ h => h) (.inl ⟨rfl, fun w' hS => by simp [execOp, go_sem] <;> omega⟩) (hS0) ?_
                simp only [Act.put, List.getElem_toArray, List.getElem_cons_zero, List.getElem_cons_succ, List.setIfInBounds_toArray, List.set_cons_succ, List.set_cons_zero]
                refine wpAnyX_two (i := 5) (j := 15) rfl rfl (by kernel_rfl) rfl rfl (fun K hK => ?_) (fun K hK => ?_)
                · go_wp2
                  refine hK.out _ _ ((hS0).alloc _) ?_
                  clear hK K
                  obtain ⟨Wa1, hWa1⟩ : ∃ X, X = Wd.alloc (.cells #[.string ⟨#[32]⟩, .string ⟨#[32, 111, 110, 101, 32]⟩, .string ⟨#[32, 109, 97, 121, 98, 101, 32]⟩, .string ⟨#[32, 109, 97, 110, 121, 32]⟩] 9) := ⟨_, rfl⟩
                  have xWa1 : Ext Wd Wa1 := by rw [hWa1]; exact (Ext.refl _).alloc _
                  have rWa1 : Wa1.heap[Wd.heap.size]? = some (.cells #[.string ⟨#[32]⟩, .string ⟨#[32, 111, 110, 101, 32]⟩, .string ⟨#[32, 109, 97, 121, 98, 101, 32]⟩, .string ⟨#[32, 109, 97, 110, 121, 32]⟩] 9 (0, 0)) := by rw [hWa1]; exact heap_alloc_new _ _
                  have fWa1 : Ext W Wa1 := (hS0).trans xWa1
                  rw [← hWa1]
                  clear hWa1
                  refine wpAnyX_mono (S' := fun w' => Ext Wa1 w') (fun w' hw' => (fWa1).trans hw') _ _ _ _ ?_
                  have cWa1 := rule_cell rWa1 r hr1' hr2'
                  refine wpAnyX_take (i := 8) (v := .pointer (some ⟨Wd.heap.size, r, none⟩)) rfl (by kernel_rfl) (by kernel_rfl) (fun _ _ _ h => h) (.inl ⟨rfl, fun w' hS => by simp [execOp, go_sem, hr3]⟩) (Ext.refl Wa1) ?_
                  simp only [Act.put, List.getElem_toArray, List.getElem_cons_zero, List.getElem_cons_succ, List.setIfInBounds_toArray, List.set_cons_succ, List.set_cons_zero]
                  refine wpAnyX_take (i := 9) (v := .string (ruleS r)) rfl (by kernel_rfl) (by kernel_rfl) (fun _ _ _ h => h) (.inl ⟨rfl, fun w' hS => by simp [execOp, go_sem, hS.cell cWa1]⟩) (Ext.refl Wa1) ?_
                  simp only [Act.put, List.getElem_toArray, List.getElem_cons_zero, List.getElem_cons_succ, List.setIfInBounds_toArray, List.set_cons_succ, List.set_cons_zero]
                  refine wpAnyX_take (i := 10) (v := .string ((⟨#[32, 32]⟩ : ByteArray) ++ d ++ ruleS r)) rfl (by kernel_rfl) (by kernel_rfl) (fun _ _ _ h => h) (.inl ⟨rfl, fun w' hS => by simp [execOp, go_sem] <;> omega⟩) (Ext.refl Wa1) ?_
                  simp only [Act.put, List.getElem_toArray, List.getElem_cons_zero, List.getElem_cons_succ, List.setIfInBounds_toArray, List.set_cons_succ, List.set_cons_zero]
                  refine wpAnyX_one (j := 15) rfl (by kernel_rfl) rfl fun K hK => ?_
                  go_wp2
                  refine hK.out _ _ ((Ext.refl Wa1).alloc _) ?_
                  clear hK K
                  obtain ⟨Wa2, hWa2⟩ : ∃ X, X = Wa1.alloc (.cells #[.string ⟨#[]⟩, .string ⟨#[98, 111, 111, 108]⟩, .string ⟨#[105, 110, 116]⟩, .string ⟨#[116, 101, 120, 116]⟩, .string fty, .string fty] 9) := ⟨_, rfl⟩
                  have xWa2 : Ext Wa1 Wa2 := by rw [hWa2]; exact (Ext.refl _).alloc _
                  have rWa2 : Wa2.heap[Wa1.heap.size]? = some (.cells #[.string ⟨#[]⟩, .string ⟨#[98, 111, 111, 108]⟩, .string ⟨#[105, 110, 116]⟩, .string ⟨#[116, 101, 120, 116]⟩, .string fty, .string fty] 9 (0, 0)) := by rw [hWa2]; exact heap_alloc_new _ _
                  have fWa2 : Ext W Wa2 := (fWa1).trans xWa2
                  rw [← hWa2]
                  clear hWa2
                  refine wpAnyX_mono (S' := fun w' => Ext Wa2 w') (fun w' hw' => (xWa2).trans hw') _ _ _ _ ?_
                  have cWa2 := kind_cell rWa2 kn hk1' hk2'
                  refine wpAnyX_take (i := 18) (v := .pointer (some ⟨Wa1.heap.size, kn, none⟩)) rfl (by kernel_rfl) (by kernel_rfl) (fun _ _ _ h => h) (.inl ⟨rfl, fun w' hS => by simp [execOp, go_sem, hk3]⟩) (Ext.refl Wa2) ?_
                  simp only [Act.put, List.getElem_toArray, List.getElem_cons_zero, List.getElem_cons_succ, List.setIfInBounds_toArray, List.set_cons_succ, List.set_cons_zero]
                  refine wpAnyX_take (i := 19) (v := .string (kindS kn fty)) rfl (by kernel_rfl) (by kernel_rfl) (fun _ _ _ h => h) (.inl ⟨rfl, fun w' hS => by simp [execOp, go_sem, hS.cell cWa2]⟩) (Ext.refl Wa2) ?_
                  simp only [Act.put, List.getElem_toArray, List.getElem_cons_zero, List.getElem_cons_succ, List.setIfInBounds_toArray, List.set_cons_succ, List.set_cons_zero]
                  refine wpAnyX_take (i := 20) (v := .string ((⟨#[32, 32]⟩ : ByteArray) ++ d ++ ruleS r ++ kindS kn fty)) rfl (by kernel_rfl) (by kernel_rfl) (fun _ _ _ h => h) (.inl ⟨rfl, fun w' hS => by simp [execOp, go_sem] <;> omega⟩) (Ext.refl Wa2) ?_
                  simp only [Act.put, List.getElem_toArray, List.getElem_cons_zero, List.getElem_cons_succ, List.setIfInBounds_toArray, List.set_cons_succ, List.set_cons_zero]
                  refine wpAnyX_take (i := 21) (v := .string ((⟨#[32, 32]⟩ : ByteArray) ++ d ++ ruleS r ++ kindS kn fty ++ ⟨#[32]⟩)) rfl (by kernel_rfl) (by kernel_rfl) (fun _ _ _ h => h) (.inl ⟨rfl, fun w' hS => by simp [execOp, go_sem] <;> omega⟩) (Ext.refl Wa2) ?_
                  simp only [Act.put, List.getElem_toArray, List.getElem_cons_zero, List.getElem_cons_succ, List.setIfInBounds_toArray, List.set_cons_succ, List.set_cons_zero]
                  refine wpAnyX_take (i := 24) (v := .string ((⟨#[32, 32]⟩ : ByteArray) ++ d ++ ruleS r ++ kindS kn fty ++ ⟨#[32]⟩ ++ fnm)) rfl (by kernel_rfl) (by kernel_rfl) (fun _ _ _ h => h) (.inl ⟨rfl, fun w' hS => by simp [execOp, go_sem] <;> omega⟩) (Ext.refl Wa2) ?_
                  simp only [Act.put, List.getElem_toArray, List.getElem_cons_zero, List.getElem_cons_succ, List.setIfInBounds_toArray, List.set_cons_succ, List.set_cons_zero]
                  refine wpAnyX_take (i := 25) (v := .string ((⟨#[32, 32]⟩ : ByteArray) ++ d ++ ruleS r ++ kindS kn fty ++ ⟨#[32]⟩ ++ fnm ++ ⟨#[59, 10]⟩)) rfl (by kernel_rfl) (by kernel_rfl) (fun _ _ _ h => h) (.inl ⟨rfl, fun w' hS => by simp [execOp, go_sem] <;> omega⟩) (Ext.refl Wa2) ?_
                  simp only [Act.put, List.getElem_toArray, List.getElem_cons_zero, List.getElem_cons_succ, List.setIfInBounds_toArray, List.set_cons_succ, List.set_cons_zero]
                  refine wpAnyX_take (i := 26) (v := .string (z ++ ((⟨#[32, 32]⟩ : ByteArray) ++ d ++ ruleS r ++ kindS kn fty ++ ⟨#[32]⟩ ++ fnm ++ ⟨#[59, 10]⟩))) rfl (by kernel_rfl) (by kernel_rfl) (fun _ _ _ h => h) (.inl ⟨rfl, fun w' hS => by simp [execOp, go_sem] <;> omega⟩) (Ext.refl Wa2) ?_
                  simp only [Act.put, List.getElem_toArray, List.getElem_cons_zero, List.getElem_cons_succ, List.setIfInBounds_toArray, List.set_cons_succ, List.set_cons_zero]
                  refine wpAnyX_take (i := 27) (v := .string (z ++ ((⟨#[32, 32]⟩ : ByteArray) ++ d ++ ruleS r ++ kindS kn fty ++ ⟨#[32]⟩ ++ fnm ++ ⟨#[59, 10]⟩))) rfl (by kernel_rfl) (by kernel_rfl) (fun _ _ _ h => h) (.inl ⟨rfl, fun w' hS => by simp [execOp, go_sem]⟩) (Ext.refl Wa2) ?_
                  simp only [Act.put, List.getElem_toArray, List.getElem_cons_zero, List.getElem_cons_succ, List.setIfInBounds_toArray, List.set_cons_succ, List.set_cons_zero]
                  refine wpAnyX_end [] [] rfl (by intro j i hj; simp at hj) (by kernel_rfl) (by intro i hi; simp at hi) fun K hK => ?_
                  go_wp2
                  refine hK.out _ _ ?_
                  clear hK K
                  go_wp2
                  exact ⟨⟨j + 1, _, by omega, by go_num, rfl, unhide Hnew, hxW2.trans (fWa2)⟩, by simp [intOf]; omega⟩
                · go_wp2
                  refine hK.out _ _ ((hS0).alloc _) ?_
                  clear hK K
                  obtain ⟨Wa3, hWa3⟩ : ∃ X, X = Wd.alloc (.cells #[.string ⟨#[]⟩, .string ⟨#[98, 111, 111, 108]⟩, .string ⟨#[105, 110, 116]⟩, .string ⟨#[116, 101, 120, 116]⟩, .string fty, .string fty] 9) := ⟨_, rfl⟩
                  have xWa3 : Ext Wd Wa3 := by rw [hWa3]; exact (Ext.refl _).alloc _
                  have rWa3 : Wa3.heap[Wd.heap.size]? = some (.cells #[.string ⟨#[]⟩, .string ⟨#[98, 111, 111, 108]⟩, .string ⟨#[105, 110, 116]⟩, .string ⟨#[116, 101, 120, 116]⟩, .string fty, .string fty] 9 (0, 0)) := by rw [hWa3]; exact heap_alloc_new _ _
                  have fWa3 : Ext W Wa3 := (hS0).trans xWa3
                  rw [← hWa3]
                  clear hWa3
                  refine wpAnyX_mono (S' := fun w' => Ext Wa3 w') (fun w' hw' => (fWa3).trans hw') _ _ _ _ ?_
                  have cWa3 := kind_cell rWa3 kn hk1' hk2'
                  refine wpAnyX_take (i := 18) (v := .pointer (some ⟨Wd.heap.size, kn, none⟩)) rfl (by kernel_rfl) (by kernel_rfl) (fun _ _ _ h => h) (.inl ⟨rfl, fun w' hS => by simp [execOp, go_sem, hk3]⟩) (Ext.refl Wa3) ?_
                  simp only [Act.put, List.getElem_toArray, List.getElem_cons_zero, List.getElem_cons_succ, List.setIfInBounds_toArray, List.set_cons_succ, List.set_cons_zero]
                  refine wpAnyX_take (i := 19) (v := .string (kindS kn fty)) rfl (by kernel_rfl) (by kernel_rfl) (fun _ _ _ h => h) (.inl ⟨rfl, fun w' hS => by simp [execOp, go_sem, hS.cell cWa3]⟩) (Ext.refl Wa3) ?_
                  simp only [Act.put, List.getElem_toArray, List.getElem_cons_zero, List.getElem_cons_succ, List.setIfInBounds_toArray, List.set_cons_succ, List.set_cons_zero]
                  refine wpAnyX_one (j := 5) rfl (by kernel_rfl) rfl fun K hK => ?_
                  go_wp2
                  refine hK.out _ _ ((Ext.refl Wa3).alloc _) ?_
                  clear hK K
                  obtain ⟨Wa4, hWa4⟩ : ∃ X, X = Wa3.alloc (.cells #[.string ⟨#[32]⟩, .string ⟨#[32, 111, 110, 101, 32]⟩, .string ⟨#[32, 109, 97, 121, 98, 101, 32]⟩, .string ⟨#[32, 109, 97, 110, 121, 32]⟩] 9) := ⟨_, rfl⟩
                  have xWa4 : Ext Wa3 Wa4 := by rw [hWa4]; exact (Ext.refl _).alloc _
                  have rWa4 : Wa4.heap[Wa3.heap.size]? = some (.cells #[.string ⟨#[32]⟩, .string ⟨#[32, 111, 110, 101, 32]⟩, .string ⟨#[32, 109, 97, 121, 98, 101, 32]⟩, .string ⟨#[32, 109, 97, 110, 121, 32]⟩] 9 (0, 0)) := by rw [hWa4]; exact heap_alloc_new _ _
                  have fWa4 : Ext W Wa4 := (fWa3).trans xWa4
                  rw [← hWa4]
                  clear hWa4
                  refine wpAnyX_mono (S' := fun w' => Ext Wa4 w') (fun w' hw' => (xWa4).trans hw') _ _ _ _ ?_
                  have cWa4 := rule_cell rWa4 r hr1' hr2'
                  refine wpAnyX_take (i := 8) (v := .pointer (some ⟨Wa3.heap.size, r, none⟩)) rfl (by kernel_rfl) (by kernel_rfl) (fun _ _ _ h => h) (.inl ⟨rfl, fun w' hS => by simp [execOp, go_sem, hr3]⟩) (Ext.refl Wa4) ?_
                  simp only [Act.put, List.getElem_toArray, List.getElem_cons_zero, List.getElem_cons_succ, List.setIfInBounds_toArray, List.set_cons_succ, List.set_cons_zero]
                  refine wpAnyX_take (i := 9) (v := .string (ruleS r)) rfl (by kernel_rfl) (by kernel_rfl) (fun _ _ _ h => h) (.inl ⟨rfl, fun w' hS => by simp [execOp, go_sem, hS.cell cWa4]⟩) (Ext.refl Wa4) ?_
                  simp only [Act.put, List.getElem_toArray, List.getElem_cons_zero, List.getElem_cons_succ, List.setIfInBounds_toArray, List.set_cons_succ, List.set_cons_zero]
                  refine wpAnyX_take (i := 10) (v := .string ((⟨#[32, 32]⟩ : ByteArray) ++ d ++ ruleS r)) rfl (by kernel_rfl) (by kernel_rfl) (fun _ _ _ h => h) (.inl ⟨rfl, fun w' hS => by simp [execOp, go_sem] <;> omega⟩) (Ext.refl Wa4) ?_
                  simp only [Act.put, List.getElem_toArray, List.getElem_cons_zero, List.getElem_cons_succ, List.setIfInBounds_toArray, List.set_cons_succ, List.set_cons_zero]
                  refine wpAnyX_take (i := 20) (v := .string ((⟨#[32, 32]⟩ : ByteArray) ++ d ++ ruleS r ++ kindS kn fty)) rfl (by kernel_rfl) (by kernel_rfl) (fun _ _ _ h => h) (.inl ⟨rfl, fun w' hS => by simp [execOp, go_sem] <;> omega⟩) (Ext.refl Wa4) ?_
                  simp only [Act.put, List.getElem_toArray, List.getElem_cons_zero, List.getElem_cons_succ, List.setIfInBounds_toArray, List.set_cons_succ, List.set_cons_zero]
                  refine wpAnyX_take (i := 21) (v := .string ((⟨#[32, 32]⟩ : ByteArray) ++ d ++ ruleS r ++ kindS kn fty ++ ⟨#[32]⟩)) rfl (by kernel_rfl) (by kernel_rfl) (fun _ _ _ h => h) (.inl ⟨rfl, fun w' hS => by simp [execOp, go_sem] <;> omega⟩) (Ext.refl Wa4) ?_
                  simp only [Act.put, List.getElem_toArray, List.getElem_cons_zero, List.getElem_cons_succ, List.setIfInBounds_toArray, List.set_cons_succ, List.set_cons_zero]
                  refine wpAnyX_take (i := 24) (v := .string ((⟨#[32, 32]⟩ : ByteArray) ++ d ++ ruleS r ++ kindS kn fty ++ ⟨#[32]⟩ ++ fnm)) rfl (by kernel_rfl) (by kernel_rfl) (fun _ _ _ h => h) (.inl ⟨rfl, fun w' hS => by simp [execOp, go_sem] <;> omega⟩) (Ext.refl Wa4) ?_
                  simp only [Act.put, List.getElem_toArray, List.getElem_cons_zero, List.getElem_cons_succ, List.setIfInBounds_toArray, List.set_cons_succ, List.set_cons_zero]
                  refine wpAnyX_take (i := 25) (v := .string ((⟨#[32, 32]⟩ : ByteArray) ++ d ++ ruleS r ++ kindS kn fty ++ ⟨#[32]⟩ ++ fnm ++ ⟨#[59, 10]⟩)) rfl (by kernel_rfl) (by kernel_rfl) (fun _ _ _ h => h) (.inl ⟨rfl, fun w' hS => by simp [execOp, go_sem] <;> omega⟩) (Ext.refl Wa4) ?_
                  simp only [Act.put, List.getElem_toArray, List.getElem_cons_zero, List.getElem_cons_succ, List.setIfInBounds_toArray, List.set_cons_succ, List.set_cons_zero]
                  refine wpAnyX_take (i := 26) (v := .string (z ++ ((⟨#[32, 32]⟩ : ByteArray) ++ d ++ ruleS r ++ kindS kn fty ++ ⟨#[32]⟩ ++ fnm ++ ⟨#[59, 10]⟩))) rfl (by kernel_rfl) (by kernel_rfl) (fun _ _ _ h => h) (.inl ⟨rfl, fun w' hS => by simp [execOp, go_sem] <;> omega⟩) (Ext.refl Wa4) ?_
                  simp only [Act.put, List.getElem_toArray, List.getElem_cons_zero, List.getElem_cons_succ, List.setIfInBounds_toArray, List.set_cons_succ, List.set_cons_zero]
                  refine wpAnyX_take (i := 27) (v := .string (z ++ ((⟨#[32, 32]⟩ : ByteArray) ++ d ++ ruleS r ++ kindS kn fty ++ ⟨#[32]⟩ ++ fnm ++ ⟨#[59, 10]⟩))) rfl (by kernel_rfl) (by kernel_rfl) (fun _ _ _ h => h) (.inl ⟨rfl, fun w' hS => by simp [execOp, go_sem]⟩) (Ext.refl Wa4) ?_
                  simp only [Act.put, List.getElem_toArray, List.getElem_cons_zero, List.getElem_cons_succ, List.setIfInBounds_toArray, List.set_cons_succ, List.set_cons_zero]
                  refine wpAnyX_end [] [] rfl (by intro j i hj; simp at hj) (by kernel_rfl) (by intro i hi; simp at hi) fun K hK => ?_
                  go_wp2
                  refine hK.out _ _ ?_
                  clear hK K
                  go_wp2
                  exact ⟨⟨j + 1, _, by omega, by go_num, rfl, unhide Hnew, hxW2.trans (fWa4)⟩, by simp [intOf]; omega⟩
              · go_wp2
                refine hK.out _ _ ((hS0).alloc _) ?_
                clear hK K
                obtain ⟨Wa5, hWa5⟩ : ∃ X, X = Wd.alloc (.cells #[.string ⟨#[32]⟩, .string ⟨#[32, 111, 110, 101, 32]⟩, .string ⟨#[32, 109, 97, 121, 98, 101, 32]⟩, .string ⟨#[32, 109, 97, 110, 121, 32]⟩] 9) := ⟨_, rfl⟩
                have xWa5 : Ext Wd Wa5 := by rw [hWa5]; exact (Ext.refl _).alloc _
                have rWa5 : Wa5.heap[Wd.heap.size]? = some (.cells #[.string ⟨#[32]⟩, .string ⟨#[32, 111, 110, 101, 32]⟩, .string ⟨#[32, 109, 97, 121, 98, 101, 32]⟩, .string ⟨#[32, 109, 97, 110, 121, 32]⟩] 9 (0, 0)) := by rw [hWa5]; exact heap_alloc_new _ _
                have fWa5 : Ext W Wa5 := (hS0).trans xWa5
                rw [← hWa5]
                clear hWa5
                refine wpAnyX_mono (S' := fun w' => Ext Wa5 w') (fun w' hw' => (fWa5).trans hw') _ _ _ _ ?_
                have cWa5 := rule_cell rWa5 r hr1' hr2'
                refine wpAnyX_take (i := 8) (v := .pointer (some ⟨Wd.heap.size, r, none⟩)) rfl (by kernel_rfl) (by kernel_rfl) (fun _ _ _ h => h) (.inl ⟨rfl, fun w' hS => by simp [execOp, go_sem, hr3]⟩) (Ext.refl Wa5) ?_
                simp only [Act.put, List.getElem_toArray, List.getElem_cons_zero, List.getElem_cons_succ, List.setIfInBounds_toArray, List.set_cons_succ, List.set_cons_zero]
                refine wpAnyX_take (i := 9) (v := .string (ruleS r)) rfl (by kernel_rfl) (by kernel_rfl) (fun _ _ _ h => h) (.inl ⟨rfl, fun w' hS => by simp [execOp, go_sem, hS.cell cWa5]⟩) (Ext.refl Wa5) ?_
                simp only [Act.put, List.getElem_toArray, List.getElem_cons_zero, List.getElem_cons_succ, List.setIfInBounds_toArray, List.set_cons_succ, List.set_cons_zero]
                refine wpAnyX_two (i := 3) (j := 15) rfl rfl (by kernel_rfl) rfl rfl (fun K hK => ?_) (fun K hK => ?_)
                · go_wp2_with fail
                  refine (hdec _).mono ?_
                  rintro e wz ⟨rfl, hwz⟩
                  rw [hwz]
                  clear hwz wz
                  go_wp2
                  refine hK.out _ _ (Ext.refl Wa5) ?_
                  clear hK K
                  refine wpAnyX_take (i := 4) (v := .string ((⟨#[32, 32]⟩ : ByteArray) ++ d)) rfl (by kernel_rfl) (by kernel_rfl) (fun _ _ _ h => h) (.inl ⟨rfl, fun w' hS => by simp [execOp, go_sem] <;> omega⟩) (Ext.refl Wa5) ?_
                  simp only [Act.put, List.getElem_toArray, List.getElem_cons_zero, List.getElem_cons_succ, List.setIfInBounds_toArray, List.set_cons_succ, List.set_cons_zero]
                  refine wpAnyX_take (i := 10) (v := .string ((⟨#[32, 32]⟩ : ByteArray) ++ d ++ ruleS r)) rfl (by kernel_rfl) (by kernel_rfl) (fun _ _ _ h => h) (.inl ⟨rfl, fun w' hS => by simp [execOp, go_sem] <;> omega⟩) (Ext.refl Wa5) ?_
                  simp only [Act.put, List.getElem_toArray, List.getElem_cons_zero, List.getElem_cons_succ, List.setIfInBounds_toArray, List.set_cons_succ, List.set_cons_zero]
                  refine wpAnyX_one (j := 15) rfl (by kernel_rfl) rfl fun K hK => ?_
                  go_wp2
                  refine hK.out _ _ ((Ext.refl Wa5).alloc _) ?_
                  clear hK K
                  obtain ⟨Wa6, hWa6⟩ : ∃ X, X = Wa5.alloc (.cells #[.string ⟨#[]⟩, .string ⟨#[98, 111, 111, 108]⟩, .string ⟨#[105, 110, 116]⟩, .string ⟨#[116, 101, 120, 116]⟩, .string fty, .string fty] 9) := ⟨_, rfl⟩
                  have xWa6 : Ext Wa5 Wa6 := by rw [hWa6]; exact (Ext.refl _).alloc _
                  have rWa6 : Wa6.heap[Wa5.heap.size]? = some (.cells #[.string ⟨#[]⟩, .string ⟨#[98, 111, 111, 108]⟩, .string ⟨#[105, 110, 116]⟩, .string ⟨#[116, 101, 120, 116]⟩, .string fty, .string fty] 9 (0, 0)) := by rw [hWa6]; exact heap_alloc_new _ _
                  have fWa6 : Ext W Wa6 := (fWa5).trans xWa6
                  rw [← hWa6]
                  clear hWa6
                  refine wpAnyX_mono (S' := fun w' => Ext Wa6 w') (fun w' hw' => (xWa6).trans hw') _ _ _ _ ?_
                  have cWa6 := kind_cell rWa6 kn hk1' hk2'
                  refine wpAnyX_take (i := 18) (v := .pointer (some ⟨Wa5.heap.size, kn, none⟩)) rfl (by kernel_rfl) (by kernel_rfl) (fun _ _ _ h => h) (.inl ⟨rfl, fun w' hS => by simp [execOp, go_sem, hk3]⟩) (Ext.refl Wa6) ?_
                  simp only [Act.put, List.getElem_toArray, List.getElem_cons_zero, List.getElem_cons_succ, List.setIfInBounds_toArray, List.set_cons_succ, List.set_cons_zero]
                  refine wpAnyX_take (i := 19) (v := .string (kindS kn fty)) rfl (by kernel_rfl) (by kernel_rfl) (fun _ _ _ h => h) (.inl ⟨rfl, fun w' hS => by simp [execOp, go_sem, hS.cell cWa6]⟩) (Ext.refl Wa6) ?_
                  simp only [Act.put, List.getElem_toArray, List.getElem_cons_zero, List.getElem_cons_succ, List.setIfInBounds_toArray, List.set_cons_succ, List.set_cons_zero]
                  refine wpAnyX_take (i := 20) (v := .string ((⟨#[32, 32]⟩ : ByteArray) ++ d ++ ruleS r ++ kindS kn fty)) rfl (by kernel_rfl) (by kernel_rfl) (fun _ _ _ h => h) (.inl ⟨rfl, fun w' hS => by simp [execOp, go_sem] <;> omega⟩) (Ext.refl Wa6) ?_
                  simp only [Act.put, List.getElem_toArray, List.getElem_cons_zero, List.getElem_cons_succ, List.setIfInBounds_toArray, List.set_cons_succ, List.set_cons_zero]
                  refine wpAnyX_take (i := 21) (v := .string ((⟨#[32, 32]⟩ : ByteArray) ++ d ++ ruleS r ++ kindS kn fty ++ ⟨#[32]⟩)) rfl (by kernel_rfl) (by kernel_rfl) (fun _ _ _ h => h) (.inl ⟨rfl, fun w' hS => by simp [execOp, go_sem] <;> omega⟩) (Ext.refl Wa6) ?_
                  simp only [Act.put, List.getElem_toArray, List.getElem_cons_zero, List.getElem_cons_succ, List.setIfInBounds_toArray, List.set_cons_succ, List.set_cons_zero]
                  refine wpAnyX_take (i := 24) (v := .string ((⟨#[32, 32]⟩ : ByteArray) ++ d ++ ruleS r ++ kindS kn fty ++ ⟨#[32]⟩ ++ fnm)) rfl (by kernel_rfl) (by kernel_rfl) (fun _ _ _ h => h) (.inl ⟨rfl, fun w' hS => by simp [execOp, go_sem] <;> omega⟩) (Ext.refl Wa6) ?_
                  simp only [Act.put, List.getElem_toArray, List.getElem_cons_zero, List.getElem_cons_succ, List.setIfInBounds_toArray, List.set_cons_succ, List.set_cons_zero]
                  refine wpAnyX_take (i := 25) (v := .string ((⟨#[32, 32]⟩ : ByteArray) ++ d ++ ruleS r ++ kindS kn fty ++ ⟨#[32]⟩ ++ fnm ++ ⟨#[59, 10]⟩)) rfl (by kernel_rfl) (by kernel_rfl) (fun _ _ _ h => h) (.inl ⟨rfl, fun w' hS => by simp [execOp, go_sem] <;> omega⟩) (Ext.refl Wa6) ?_
                  simp only [Act.put, List.getElem_toArray, List.getElem_cons_zero, List.getElem_cons_succ, List.setIfInBounds_toArray, List.set_cons_succ, List.set_cons_zero]
                  refine wpAnyX_take (i := 26) (v := .string (z ++ ((⟨#[32, 32]⟩ : ByteArray) ++ d ++ ruleS r ++ kindS kn fty ++ ⟨#[32]⟩ ++ fnm ++ ⟨#[59, 10]⟩))) rfl (by kernel_rfl) (by kernel_rfl) (fun _ _ _ h => h) (.inl ⟨rfl, fun w' hS => by simp [execOp, go_sem] <;> omega⟩) (Ext.refl Wa6) ?_
                  simp only [Act.put, List.getElem_toArray, List.getElem_cons_zero, List.getElem_cons_succ, List.setIfInBounds_toArray, List.set_cons_succ, List.set_cons_zero]
                  refine wpAnyX_take (i := 27) (v := .string (z ++ ((⟨#[32, 32]⟩ : ByteArray) ++ d ++ ruleS r ++ kindS kn fty ++ ⟨#[32]⟩ ++ fnm ++ ⟨#[59, 10]⟩))) rfl (by kernel_rfl) (by kernel_rfl) (fun _ _ _ h => h) (.inl ⟨rfl, fun w' hS => by simp [execOp, go_sem]⟩) (Ext.refl Wa6) ?_
                  simp only [Act.put, List.getElem_toArray, List.getElem_cons_zero, List.getElem_cons_succ, List.setIfInBounds_toArray, List.set_cons_succ, List.set_cons_zero]
                  refine wpAnyX_end [] [] rfl (by intro j i hj; simp at hj) (by kernel_rfl) (by intro i hi; simp at hi) fun K hK => ?_
                  go_wp2
                  refine hK.out _ _ ?_
                  clear hK K
                  go_wp2
                  exact ⟨⟨j + 1, _, by omega, by go_num, rfl, unhide Hnew, hxW2.trans (fWa6)⟩, by simp [intOf]; omega⟩
                · go_wp2
                  refine hK.out _ _ ((Ext.refl Wa5).alloc _) ?_
                  clear hK K
                  obtain ⟨Wa7, hWa7⟩ : ∃ X, X = Wa5.alloc (.cells #[.string ⟨#[]⟩, .string ⟨#[98, 111, 111, 108]⟩, .string ⟨#[105, 110, 116]⟩, .string ⟨#[116, 101, 120, 116]⟩, .string fty, .string fty] 9) := ⟨_, rfl⟩
                  have xWa7 : Ext Wa5 Wa7 := by rw [hWa7]; exact (Ext.refl _).alloc _
                  have rWa7 : Wa7.heap[Wa5.heap.size]? = some (.cells #[.string ⟨#[]⟩, .string ⟨#[98, 111, 111, 108]⟩, .string ⟨#[105, 110, 116]⟩, .string ⟨#[116, 101, 120, 116]⟩, .string fty, .string fty] 9 (0, 0)) := by rw [hWa7]; exact heap_alloc_new _ _
                  have fWa7 : Ext W Wa7 := (fWa5).trans xWa7
                  rw [← hWa7]
                  clear hWa7
                  refine wpAnyX_mono (S' := fun w' => Ext Wa7 w') (fun w' hw' => (xWa7).trans hw') _ _ _ _ ?_
                  have cWa7 := kind_cell rWa7 kn hk1' hk2'
                  refine wpAnyX_take (i := 18) (v := .pointer (some ⟨Wa5.heap.size, kn, none⟩)) rfl (by kernel_rfl) (by kernel_rfl) (fun _ _ _ h => h) (.inl ⟨rfl, fun w' hS => by simp [execOp, go_sem, hk3]⟩) (Ext.refl Wa7) ?_
                  simp only [Act.put, List.getElem_toArray, List.getElem_cons_zero, List.getElem_cons_succ, List.setIfInBounds_toArray, List.set_cons_succ, List.set_cons_zero]
                  refine wpAnyX_take (i := 19) (v := .string (kindS kn fty)) rfl (by kernel_rfl) (by kernel_rfl) (fun _ _ _ h => h) (.inl ⟨rfl, fun w' hS => by simp [execOp, go_sem, hS.cell cWa7]⟩) (Ext.refl Wa7) ?_
                  simp only [Act.put, List.getElem_toArray, List.getElem_cons_zero, List.getElem_cons_succ, List.setIfInBounds_toArray, List.set_cons_succ, List.set_cons_zero]
                  refine wpAnyX_one (j := 3) rfl (by kernel_rfl) rfl fun K hK => ?_
                  go_wp2_with fail
                  refine (hdec _).mono ?_
                  rintro e wz ⟨rfl, hwz⟩
                  rw [hwz]
                  clear hwz wz
                  go_wp2
                  refine hK.out _ _ (Ext.refl Wa7) ?_
                  clear hK K
                  refine wpAnyX_take (i := 4) (v := .string ((⟨#[32, 32]⟩ : ByteArray) ++ d)) rfl (by kernel_rfl) (by kernel_rfl) (fun _ _ _ h => h) (.inl ⟨rfl, fun w' hS => by simp [execOp, go_sem] <;> omega⟩) (Ext.refl Wa7) ?_
                  simp only [Act.put, List.getElem_toArray, List.getElem_cons_zero, List.getElem_cons_succ, List.setIfInBounds_toArray, List.set_cons_succ, List.set_cons_zero]
                  refine wpAnyX_take (i := 10) (v := .string ((⟨#[32, 32]⟩ : ByteArray) ++ d ++ ruleS r)) rfl (by kernel_rfl) (by kernel_rfl) (fun _ _ _ h => h) (.inl ⟨rfl, fun w' hS => by simp [execOp, go_sem] <;> omega⟩) (Ext.refl Wa7) ?_
                  simp only [Act.put, List.getElem_toArray, List.getElem_cons_zero, List.getElem_cons_succ, List.setIfInBounds_toArray, List.set_cons_succ, List.set_cons_zero]
                  refine wpAnyX_take (i := 20) (v := .string ((⟨#[32, 32]⟩ : ByteArray) ++ d ++ ruleS r ++ kindS kn fty)) rfl (by kernel_rfl) (by kernel_rfl) (fun _ _ _ h => h) (.inl ⟨rfl, fun w' hS => by simp [execOp, go_sem] <;> omega⟩) (Ext.refl Wa7) ?_
                  simp only [Act.put, List.getElem_toArray, List.getElem_cons_zero, List.getElem_cons_succ, List.setIfInBounds_toArray, List.set_cons_succ, List.set_cons_zero]
                  refine wpAnyX_take (i := 21) (v := .string ((⟨#[32, 32]⟩ : ByteArray) ++ d ++ ruleS r ++ kindS kn fty ++ ⟨#[32]⟩)) rfl (by kernel_rfl) (by kernel_rfl) (fun _ _ _ h => h) (.inl ⟨rfl, fun w' hS => by simp [execOp, go_sem] <;> omega⟩) (Ext.refl Wa7) ?_
                  simp only [Act.put, List.getElem_toArray, List.getElem_cons_zero, List.getElem_cons_succ, List.setIfInBounds_toArray, List.set_cons_succ, List.set_cons_zero]
                  refine wpAnyX_take (i := 24) (v := .string ((⟨#[32, 32]⟩ : ByteArray) ++ d ++ ruleS r ++ kindS kn fty ++ ⟨#[32]⟩ ++ fnm)) rfl (by kernel_rfl) (by kernel_rfl) (fun _ _ _ h => h) (.inl ⟨rfl, fun w' hS => by simp [execOp, go_sem] <;> omega⟩) (Ext.refl Wa7) ?_
                  simp only [Act.put, List.getElem_toArray, List.getElem_cons_zero, List.getElem_cons_succ, List.setIfInBounds_toArray, List.set_cons_succ, List.set_cons_zero]
                  refine wpAnyX_take (i := 25) (v := .string ((⟨#[32, 32]⟩ : ByteArray) ++ d ++ ruleS r ++ kindS kn fty ++ ⟨#[32]⟩ ++ fnm ++ ⟨#[59, 10]⟩)) rfl (by kernel_rfl) (by kernel_rfl) (fun _ _ _ h => h) (.inl ⟨rfl, fun w' hS => by simp [execOp, go_sem] <;> omega⟩) (Ext.refl Wa7) ?_
                  simp only [Act.put, List.getElem_toArray, List.getElem_cons_zero, List.getElem_cons_succ, List.setIfInBounds_toArray, List.set_cons_succ, List.set_cons_zero]
                  refine wpAnyX_take (i := 26) (v := .string (z ++ ((⟨#[32, 32]⟩ : ByteArray) ++ d ++ ruleS r ++ kindS kn fty ++ ⟨#[32]⟩ ++ fnm ++ ⟨#[59, 10]⟩))) rfl (by kernel_rfl) (by kernel_rfl) (fun _ _ _ h => h) (.inl ⟨rfl, fun w' hS => by simp [execOp, go_sem] <;> omega⟩) (Ext.refl Wa7) ?_
                  simp only [Act.put, List.getElem_toArray, List.getElem_cons_zero, List.getElem_cons_succ, List.setIfInBounds_toArray, List.set_cons_succ, List.set_cons_zero]
                  refine wpAnyX_take (i := 27) (v := .string (z ++ ((⟨#[32, 32]⟩ : ByteArray) ++ d ++ ruleS r ++ kindS kn fty ++ ⟨#[32]⟩ ++ fnm ++ ⟨#[59, 10]⟩))) rfl (by kernel_rfl) (by kernel_rfl) (fun _ _ _ h => h) (.inl ⟨rfl, fun w' hS => by simp [execOp, go_sem]⟩) (Ext.refl Wa7) ?_
                  simp only [Act.put, List.getElem_toArray, List.getElem_cons_zero, List.getElem_cons_succ, List.setIfInBounds_toArray, List.set_cons_succ, List.set_cons_zero]
                  refine wpAnyX_end [] [] rfl (by intro j i hj; simp at hj) (by kernel_rfl) (by intro i hi; simp at hi) fun K hK => ?_
                  go_wp2
                  refine hK.out _ _ ?_
                  clear hK K
                  go_wp2
                  exact ⟨⟨j + 1, _, by omega, by go_num, rfl, unhide Hnew, hxW2.trans (fWa7)⟩, by simp [intOf]; omega⟩
              · go_wp2
                refine hK.out _ _ ((hS0).alloc _) ?_
                clear hK K
                obtain ⟨Wa8, hWa8⟩ : ∃ X, X = Wd.alloc (.cells #[.string ⟨#[]⟩, .string ⟨#[98, 111, 111, 108]⟩, .string ⟨#[105, 110, 116]⟩, .string ⟨#[116, 101, 120, 116]⟩, .string fty, .string fty] 9) := ⟨_, rfl⟩
                have xWa8 : Ext Wd Wa8 := by rw [hWa8]; exact (Ext.refl _).alloc _
                have rWa8 : Wa8.heap[Wd.heap.size]? = some (.cells #[.string ⟨#[]⟩, .string ⟨#[98, 111, 111, 108]⟩, .string ⟨#[105, 110, 116]⟩, .string ⟨#[116, 101, 120, 116]⟩, .string fty, .string fty] 9 (0, 0)) := by rw [hWa8]; exact heap_alloc_new _ _
                have fWa8 : Ext W Wa8 := (hS0).trans xWa8
                rw [← hWa8]
                clear hWa8
                refine wpAnyX_mono (S' := fun w' => Ext Wa8 w') (fun w' hw' => (fWa8).trans hw') _ _ _ _ ?_
                have cWa8 := kind_cell rWa8 kn hk1' hk2'
                refine wpAnyX_take (i := 18) (v := .pointer (some ⟨Wd.heap.size, kn, none⟩)) rfl (by kernel_rfl) (by kernel_rfl) (fun _ _ _ h => h) (.inl ⟨rfl, fun w' hS => by simp [execOp, go_sem, hk3]⟩) (Ext.refl Wa8) ?_
                simp only [Act.put, List.getElem_toArray, List.getElem_cons_zero, List.getElem_cons_succ, List.setIfInBounds_toArray, List.set_cons_succ, List.set_cons_zero]
                refine wpAnyX_take (i := 19) (v := .string (kindS kn fty)) rfl (by kernel_rfl) (by kernel_rfl) (fun _ _ _ h => h) (.inl ⟨rfl, fun w' hS => by simp [execOp, go_sem, hS.cell cWa8]⟩) (Ext.refl Wa8) ?_
                simp only [Act.put, List.getElem_toArray, List.getElem_cons_zero, List.getElem_cons_succ, List.setIfInBounds_toArray, List.set_cons_succ, List.set_cons_zero]
                refine wpAnyX_two (i := 3) (j := 5) rfl rfl (by kernel_rfl) rfl rfl (fun K hK => ?_) (fun K hK => ?_)
                · go_wp2_with fail
                  refine (hdec _).mono ?_
                  rintro e wz ⟨rfl, hwz⟩
                  rw [hwz]
                  clear hwz wz
                  go_wp2
                  refine hK.out _ _ (Ext.refl Wa8) ?_
                  clear hK K
                  refine wpAnyX_take (i := 4) (v := .string ((⟨#[32, 32]⟩ : ByteArray) ++ d)) rfl (by kernel_rfl) (by kernel_rfl) (fun _ _ _ h => h) (.inl ⟨rfl, fun w' hS => by simp [execOp, go_sem] <;> omega⟩) (Ext.refl Wa8) ?_
                  simp only [Act.put, List.getElem_toArray, List.getElem_cons_zero, List.getElem_cons_succ, List.setIfInBounds_toArray, List.set_cons_succ, List.set_cons_zero]
                  refine wpAnyX_one (j := 5) rfl (by kernel_rfl) rfl fun K hK => ?_
                  go_wp2
                  refine hK.out _ _ ((Ext.refl Wa8).alloc _) ?_
                  clear hK K
                  obtain ⟨Wa9, hWa9⟩ : ∃ X, X = Wa8.alloc (.cells #[.string ⟨#[32]⟩, .string ⟨#[32, 111, 110, 101, 32]⟩, .string ⟨#[32, 109, 97, 121, 98, 101, 32]⟩, .string ⟨#[32, 109, 97, 110, 121, 32]⟩] 9) := ⟨_, rfl⟩
                  have xWa9 : Ext Wa8 Wa9 := by rw [hWa9]; exact (Ext.refl _).alloc _
                  have rWa9 : Wa9.heap[Wa8.heap.size]? = some (.cells #[.string ⟨#[32]⟩, .string ⟨#[32, 111, 110, 101, 32]⟩, .string ⟨#[32, 109, 97, 121, 98, 101, 32]⟩, .string ⟨#[32, 109, 97, 110, 121, 32]⟩] 9 (0, 0)) := by rw [hWa9]; exact heap_alloc_new _ _
                  have fWa9 : Ext W Wa9 := (fWa8).trans xWa9
                  rw [← hWa9]
                  clear hWa9
                  refine wpAnyX_mono (S' := fun w' => Ext Wa9 w') (fun w' hw' => (xWa9).trans hw') _ _ _ _ ?_
                  have cWa9 := rule_cell rWa9 r hr1' hr2'
                  refine wpAnyX_take (i := 8) (v := .pointer (some ⟨Wa8.heap.size, r, none⟩)) rfl (by kernel_rfl) (by kernel_rfl) (fun _ _ _ h => h) (.inl ⟨rfl, fun w' hS => by simp [execOp, go_sem, hr3]⟩) (Ext.refl Wa9) ?_
                  simp only [Act.put, List.getElem_toArray, List.getElem_cons_zero, List.getElem_cons_succ, List.setIfInBounds_toArray, List.set_cons_succ, List.set_cons_zero]
                  refine wpAnyX_take (i := 9) (v := .string (ruleS r)) rfl (by kernel_rfl) (by kernel_rfl) (fun _ _ _ h => h) (.inl ⟨rfl, fun w' hS => by simp [execOp, go_sem, hS.cell cWa9]⟩) (Ext.refl Wa9) ?_
                  simp only [Act.put, List.getElem_toArray, List.getElem_cons_zero, List.getElem_cons_succ, List.setIfInBounds_toArray, List.set_cons_succ, List.set_cons_zero]
                  refine wpAnyX_take (i := 10) (v := .string ((⟨#[32, 32]⟩ : ByteArray) ++ d ++ ruleS r)) rfl (by kernel_rfl) (by kernel_rfl) (fun _ _ _ h => h) (.inl ⟨rfl, fun w' hS => by simp [execOp, go_sem] <;> omega⟩) (Ext.refl Wa9) ?_
                  simp only [Act.put, List.getElem_toArray, List.getElem_cons_zero, List.getElem_cons_succ, List.setIfInBounds_toArray, List.set_cons_succ, List.set_cons_zero]
                  refine wpAnyX_take (i := 20) (v := .string ((⟨#[32, 32]⟩ : ByteArray) ++ d ++ ruleS r ++ kindS kn fty)) rfl (by kernel_rfl) (by kernel_rfl) (fun _ _ _ h => h) (.inl ⟨rfl, fun w' hS => by simp [execOp, go_sem] <;> omega⟩) (Ext.refl Wa9) ?_
                  simp only [Act.put, List.getElem_toArray, List.getElem_cons_zero, List.getElem_cons_succ, List.setIfInBounds_toArray, List.set_cons_succ, List.set_cons_zero]
                  refine wpAnyX_take (i := 21) (v := .string ((⟨#[32, 32]⟩ : ByteArray) ++ d ++ ruleS r ++ kindS kn fty ++ ⟨#[32]⟩)) rfl (by kernel_rfl) (by kernel_rfl) (fun _ _ _ h => h) (.inl ⟨rfl, fun w' hS => by simp [execOp, go_sem] <;> omega⟩) (Ext.refl Wa9) ?_
                  simp only [Act.put, List.getElem_toArray, List.getElem_cons_zero, List.getElem_cons_succ, List.setIfInBounds_toArray, List.set_cons_succ, List.set_cons_zero]
                  refine wpAnyX_take (i := 24) (v := .string ((⟨#[32, 32]⟩ : ByteArray) ++ d ++ ruleS r ++ kindS kn fty ++ ⟨#[32]⟩ ++ fnm)) rfl (by kernel_rfl) (by kernel_rfl) (fun _ _ _ h => h) (.inl ⟨rfl, fun w' hS => by simp [execOp, go_sem] <;> omega⟩) (Ext.refl Wa9) ?_
                  simp only [Act.put, List.getElem_toArray, List.getElem_cons_zero, List.getElem_cons_succ, List.setIfInBounds_toArray, List.set_cons_succ, List.set_cons_zero]
                  refine wpAnyX_take (i := 25) (v := .string ((⟨#[32, 32]⟩ : ByteArray) ++ d ++ ruleS r ++ kindS kn fty ++ ⟨#[32]⟩ ++ fnm ++ ⟨#[59, 10]⟩)) rfl (by kernel_rfl) (by kernel_rfl) (fun _ _ _ h => h) (.inl ⟨rfl, fun w' hS => by simp [execOp, go_sem] <;> omega⟩) (Ext.refl Wa9) ?_
                  simp only [Act.put, List.getElem_toArray, List.getElem_cons_zero, List.getElem_cons_succ, List.setIfInBounds_toArray, List.set_cons_succ, List.set_cons_zero]
                  refine wpAnyX_take (i := 26) (v := .string (z ++ ((⟨#[32, 32]⟩ : ByteArray) ++ d ++ ruleS r ++ kindS kn fty ++ ⟨#[32]⟩ ++ fnm ++ ⟨#[59, 10]⟩))) rfl (by kernel_rfl) (by kernel_rfl) (fun _ _ _ h => h) (.inl ⟨rfl, fun w' hS => by simp [execOp, go_sem] <;> omega⟩) (Ext.refl Wa9) ?_
                  simp only [Act.put, List.getElem_toArray, List.getElem_cons_zero, List.getElem_cons_succ, List.setIfInBounds_toArray, List.set_cons_succ, List.set_cons_zero]
                  refine wpAnyX_take (i := 27) (v := .string (z ++ ((⟨#[32, 32]⟩ : ByteArray) ++ d ++ ruleS r ++ kindS kn fty ++ ⟨#[32]⟩ ++ fnm ++ ⟨#[59, 10]⟩))) rfl (by kernel_rfl) (by kernel_rfl) (fun _ _ _ h => h) (.inl ⟨rfl, fun w' hS => by simp [execOp, go_sem]⟩) (Ext.refl Wa9) ?_
                  simp only [Act.put, List.getElem_toArray, List.getElem_cons_zero, List.getElem_cons_succ, List.setIfInBounds_toArray, List.set_cons_succ, List.set_cons_zero]
                  refine wpAnyX_end [] [] rfl (by intro j i hj; simp at hj) (by kernel_rfl) (by intro i hi; simp at hi) fun K hK => ?_
                  go_wp2
                  refine hK.out _ _ ?_
                  clear hK K
                  go_wp2
                  exact ⟨⟨j + 1, _, by omega, by go_num, rfl, unhide Hnew, hxW2.trans (fWa9)⟩, by simp [intOf]; omega⟩
                · go_wp2
                  refine hK.out _ _ ((Ext.refl Wa8).alloc _) ?_
                  clear hK K
                  obtain ⟨Wa10, hWa10⟩ : ∃ X, X = Wa8.alloc (.cells #[.string ⟨#[32]⟩, .string ⟨#[32, 111, 110, 101, 32]⟩, .string ⟨#[32, 109, 97, 121, 98, 101, 32]⟩, .string ⟨#[32, 109, 97, 110, 121, 32]⟩] 9) := ⟨_, rfl⟩
                  have xWa10 : Ext Wa8 Wa10 := by rw [hWa10]; exact (Ext.refl _).alloc _
                  have rWa10 : Wa10.heap[Wa8.heap.size]? = some (.cells #[.string ⟨#[32]⟩, .string ⟨#[32, 111, 110, 101, 32]⟩, .string ⟨#[32, 109, 97, 121, 98, 101, 32]⟩, .string ⟨#[32, 109, 97, 110, 121, 32]⟩] 9 (0, 0)) := by rw [hWa10]; exact heap_alloc_new _ _
                  have fWa10 : Ext W Wa10 := (fWa8).trans xWa10
                  rw [← hWa10]
                  clear hWa10
                  refine wpAnyX_mono (S' := fun w' => Ext Wa10 w') (fun w' hw' => (xWa10).trans hw') _ _ _ _ ?_
                  have cWa10 := rule_cell rWa10 r hr1' hr2'
                  refine wpAnyX_take (i := 8) (v := .pointer (some ⟨Wa8.heap.size, r, none⟩)) rfl (by kernel_rfl) (by kernel_rfl) (fun _ _ _ h => h) (.inl ⟨rfl, fun w' hS => by simp [execOp, go_sem, hr3]⟩) (Ext.refl Wa10) ?_
                  simp only [Act.put, List.getElem_toArray, List.getElem_cons_zero, List.getElem_cons_succ, List.setIfInBounds_toArray, List.set_cons_succ, List.set_cons_zero]
                  refine wpAnyX_take (i := 9) (v := .string (ruleS r)) rfl (by kernel_rfl) (by kernel_rfl) (fun _ _ _ h => h) (.inl ⟨rfl, fun w' hS => by simp [execOp, go_sem, hS.cell cWa10]⟩) (Ext.refl Wa10) ?_
                  simp only [Act.put, List.getElem_toArray, List.getElem_cons_zero, List.getElem_cons_succ, List.setIfInBounds_toArray, List.set_cons_succ, List.set_cons_zero]
                  refine wpAnyX_one (j := 3) rfl (by kernel_rfl) rfl fun K hK => ?_
                  go_wp2_with fail
                  refine (hdec _).mono ?_
                  rintro e wz ⟨rfl, hwz⟩
                  rw [hwz]
                  clear hwz wz
                  go_wp2
                  refine hK.out _ _ (Ext.refl Wa10) ?_
                  clear hK K
                  refine wpAnyX_take (i := 4) (v := .string ((⟨#[32, 32]⟩ : ByteArray) ++ d)) rfl (by kernel_rfl) (by kernel_rfl) (fun _ _ _ h => h) (.inl ⟨rfl, fun w' hS => by simp [execOp, go_sem] <;> omega⟩) (Ext.refl Wa10) ?_
                  simp only [Act.put, List.getElem_toArray, List.getElem_cons_zero, List.getElem_cons_succ, List.setIfInBounds_toArray, List.set_cons_succ, List.set_cons_zero]
                  refine wpAnyX_take (i := 10) (v := .string ((⟨#[32, 32]⟩ : ByteArray) ++ d ++ ruleS r)) rfl (by kernel_rfl) (by kernel_rfl) (fun _ _ _ h => h) (.inl ⟨rfl, fun w' hS => by simp [execOp, go_sem] <;> omega⟩) (Ext.refl Wa10) ?_
                  simp only [Act.put, List.getElem_toArray, List.getElem_cons_zero, List.getElem_cons_succ, List.setIfInBounds_toArray, List.set_cons_succ, List.set_cons_zero]
                  refine wpAnyX_take (i := 20) (v := .string ((⟨#[32, 32]⟩ : ByteArray) ++ d ++ ruleS r ++ kindS kn fty)) rfl (by kernel_rfl) (by kernel_rfl) (fun _ _ _ h => h) (.inl ⟨rfl, fun w' hS => by simp [execOp, go_sem] <;> omega⟩) (Ext.refl Wa10) ?_
                  simp only [Act.put, List.getElem_toArray, List.getElem_cons_zero, List.getElem_cons_succ, List.setIfInBounds_toArray, List.set_cons_succ, List.set_cons_zero]
                  refine wpAnyX_take (i := 21) (v := .string ((⟨#[32, 32]⟩ : ByteArray) ++ d ++ ruleS r ++ kindS kn fty ++ ⟨#[32]⟩)) rfl (by kernel_rfl) (by kernel_rfl) (fun _ _ _ h => h) (.inl ⟨rfl, fun w' hS => by simp [execOp, go_sem] <;> omega⟩) (Ext.refl Wa10) ?_
                  simp only [Act.put, List.getElem_toArray, List.getElem_cons_zero, List.getElem_cons_succ, List.setIfInBounds_toArray, List.set_cons_succ, List.set_cons_zero]
                  refine wpAnyX_take (i := 24) (v := .string ((⟨#[32, 32]⟩ : ByteArray) ++ d ++ ruleS r ++ kindS kn fty ++ ⟨#[32]⟩ ++ fnm)) rfl (by kernel_rfl) (by kernel_rfl) (fun _ _ _ h => h) (.inl ⟨rfl, fun w' hS => by simp [execOp, go_sem] <;> omega⟩) (Ext.refl Wa10) ?_
                  simp only [Act.put, List.getElem_toArray, List.getElem_cons_zero, List.getElem_cons_succ, List.setIfInBounds_toArray, List.set_cons_succ, List.set_cons_zero]
                  refine wpAnyX_take (i := 25) (v := .string ((⟨#[32, 32]⟩ : ByteArray) ++ d ++ ruleS r ++ kindS kn fty ++ ⟨#[32]⟩ ++ fnm ++ ⟨#[59, 10]⟩)) rfl (by kernel_rfl) (by kernel_rfl) (fun _ _ _ h => h) (.inl ⟨rfl, fun w' hS => by simp [execOp, go_sem] <;> omega⟩) (Ext.refl Wa10) ?_
                  simp only [Act.put, List.getElem_toArray, List.getElem_cons_zero, List.getElem_cons_succ, List.setIfInBounds_toArray, List.set_cons_succ, List.set_cons_zero]
                  refine wpAnyX_take (i := 26) (v := .string (z ++ ((⟨#[32, 32]⟩ : ByteArray) ++ d ++ ruleS r ++ kindS kn fty ++ ⟨#[32]⟩ ++ fnm ++ ⟨#[59, 10]⟩))) rfl (by kernel_rfl) (by kernel_rfl) (fun _ _ _ h => h) (.inl ⟨rfl, fun w' hS => by simp [execOp, go_sem] <;> omega⟩) (Ext.refl Wa10) ?_
                  simp only [Act.put, List.getElem_toArray, List.getElem_cons_zero, List.getElem_cons_succ, List.setIfInBounds_toArray, List.set_cons_succ, List.set_cons_zero]
                  refine wpAnyX_take (i := 27) (v := .string (z ++ ((⟨#[32, 32]⟩ : ByteArray) ++ d ++ ruleS r ++ kindS kn fty ++ ⟨#[32]⟩ ++ fnm ++ ⟨#[59, 10]⟩))) rfl (by kernel_rfl) (by kernel_rfl) (fun _ _ _ h => h) (.inl ⟨rfl, fun w' hS => by simp [execOp, go_sem]⟩) (Ext.refl Wa10) ?_
                  simp only [Act.put, List.getElem_toArray, List.getElem_cons_zero, List.getElem_cons_succ, List.setIfInBounds_toArray, List.set_cons_succ, List.set_cons_zero]
                  refine wpAnyX_end [] [] rfl (by intro j i hj; simp at hj) (by kernel_rfl) (by intro i hi; simp at hi) fun K hK => ?_
                  go_wp2
                  refine hK.out _ _ ?_
                  clear hK K
                  go_wp2
                  exact ⟨⟨j + 1, _, by omega, by go_num, rfl, unhide Hnew, hxW2.trans (fWa10)⟩, by simp [intOf]; omega⟩
            · rw [List.take_of_length_le (by omega)] at hz
              have HZ := hide hz
              have hB4 := hx2.cell t3
              clear hz
              go_wp2
              go_loopw [5, 97] (fun vs i wr2 => ∃ (j : Nat) (z : ByteArray), j ≤ t.gone.length ∧ i = .int .i64 j ∧ vs = .string z ∧ z.toList = A ++ headB t ++ t.items.flatMap itemB ++ t.fields.flatMap fieldB ++ goneK t.gone j ∧ Ext wc wr2) (fun _ i _ => t.gone.length - (intOf i).toNat)
              case atStart => exact ⟨0, z, by omega, rfl, rfl, by rw [unhide HZ, goneK_zero]; simp, hx2⟩
              case round =>
                clear HZ hB4 hx2 hE2 hz4 htl
                obtain ⟨j, z, hj, rfl, rfl, hz, hx2⟩ := hrel
                have hE2 := (hEr.trans hxW1).trans hx2
                have htl := goneK_le hj
                have hzs : z.size = A.length + (headB t).length + (t.items.flatMap itemB).length + (t.fields.flatMap fieldB).length + (goneK t.gone j).length := by rw [← size_toList, hz]; simp only [List.length_append]
                have hz4 : z.size ≤ 4000 := by omega
                clear hzs
                have hgl := hsm.gone
                by_cases hlt2 : j < t.gone.length
                · obtain ⟨ib, io, cs, eia, hri, rfl⟩ := (unhide Hgo).2 j t.gone[j] (by simp [hlt2])
                  simp only at eia
                  subst eia
                  have i0 : wr.cell? ⟨ib, io + j, none⟩ = some (.int .i64 t.gone[j]) := by have := hE2.cell (hri 0 _ rfl); simpa using this
                  have hgp := hpk.g t.gone[j] (List.getElem_mem hlt2)
                  have hstep : Hid (goneK t.gone (j + 1) = (if j = 0 then [32, 32, 103, 111, 110, 101] else goneK t.gone j) ++ 32 :: (itoaB t.gone[j]).toList) := goneK_succ hlt2
                  generalize t.gone[j] = n at *
                  obtain ⟨d, hd⟩ : ∃ d, d = itoaB n := ⟨_, rfl⟩
                  have hdec : ∀ w' : World, Calls Tryz.prog 43 #[.int .i64 n] w' fun e w'' => e = .returned (.string d) ∧ w'' = w' := fun w' => by rw [hd]; exact decimal_any n (by omega) (by omega) w'
                  have hds := itoa_size (n := n) ⟨by omega, by omega⟩
                  rw [← hd] at hds hstep
                  clear hd hri
                  have Hz := hide hz
                  clear hz
                  by_cases hj0 : j = 0
                  · subst hj0
                    rw [Nat.add_zero] at i0
                    have Hnew : Hid ((z ++ (⟨#[32, 32, 103, 111, 110, 101]⟩ : ByteArray) ++ ((⟨#[32]⟩ : ByteArray) ++ d)).toList = A ++ headB t ++ t.items.flatMap itemB ++ t.fields.flatMap fieldB ++ goneK t.gone (0 + 1)) := by
                      unfold Hid
                      rw [unhide hstep, app_list, app_list, app_list, unhide Hz, goneK_zero]
                      simp [bytes_toList]
                    go_wp2_with fail
                    refine (hdec _).mono ?_
                    rintro e wz ⟨rfl, hwz⟩
                    rw [hwz]
                    clear hwz wz
                    go_wp2
                    exact ⟨⟨0 + 1, _, by omega, by go_num, rfl, unhide Hnew, hx2⟩, by simp [intOf] <;> omega⟩
                  · have Hnew : Hid ((z ++ ((⟨#[32]⟩ : ByteArray) ++ d)).toList = A ++ headB t ++ t.items.flatMap itemB ++ t.fields.flatMap fieldB ++ goneK t.gone (j + 1)) := by
                      unfold Hid
                      rw [unhide hstep, if_neg hj0, app_list, app_list, unhide Hz]
                      simp [bytes_toList]
                    have hjb : ((j : Int) == 0) = false := by simp; omega
                    go_wp2_with fail
                    refine (hdec _).mono ?_
                    rintro e wz ⟨rfl, hwz⟩
                    rw [hwz]
                    clear hwz wz
                    go_wp2
                    exact ⟨⟨j + 1, _, by omega, by go_num, rfl, unhide Hnew, hx2⟩, by simp [intOf] <;> omega⟩
                · have hjl : j = t.gone.length := by omega
                  subst hjl
                  have Hz := hide hz
                  have hB5 := hx2.cell t3
                  have hE3 := hxr.trans (hxW1.trans hx2)
                  have hkk := hlen
                  clear hz
                  by_cases hg0 : 0 < t.gone.length
                  · have Hnew : Hid ((z ++ (⟨#[59, 10]⟩ : ByteArray) ++ (⟨#[125, 10]⟩ : ByteArray)).toList = (ts.take (k + 1)).flatMap typeB) := by
                      unfold Hid
                      rw [unhide hnext, app_list, app_list, unhide Hz]
                      unfold typeB
                      rw [← goneK_end hg0]
                      simp [bytes_toList]
                    go_wp2
                    exact ⟨⟨k + 1, _, by omega, by go_num, rfl, unhide Hnew, hE3⟩, by simp [intOf]; omega⟩
                  · have Hnew : Hid ((z ++ (⟨#[125, 10]⟩ : ByteArray)).toList = (ts.take (k + 1)).flatMap typeB) := by
                      unfold Hid
                      rw [unhide hnext, app_list, unhide Hz]
                      unfold typeB
                      rw [goneB_none hg0, show t.gone.length = 0 by omega, goneK_zero]
                      simp [bytes_toList]
                    have hg1 : ((t.gone.length : Nat) : Int) = 0 := by omega
                    go_wp2
                    exact ⟨⟨k + 1, _, by omega, by go_num, rfl, unhide Hnew, hE3⟩, by simp [intOf]; omega⟩
    · have hk' : k = ts.length := by omega
      subst hk'
      rw [List.take_length] at hx
      have hp := printS_ok (unhide Hg) hx
      have Hp := hide hp
      have hg0 : Hid (goodM ts = 0) := Hg
      clear hx hp
      go_wp2
      refine bodyPost_ret (v := .tuple #[.string x, .int .i64 0]) (by simp [results, Tryz.results25, go_sem]) rfl ⟨by rw [unhide Hp, unhide Hg], hEr⟩
end Go.Proofs.YtmghhakebhgckaaGreatDoor
