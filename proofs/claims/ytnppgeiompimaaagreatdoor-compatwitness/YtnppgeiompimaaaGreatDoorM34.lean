import Derived.Test.YtnppgeiompimaaaGreatDoorMShelfS
import Derived.Deep.DeepAppendRoom
namespace Go.Proofs.YtnppgeiompimaaaGreatDoor
set_option linter.unusedSimpArgs false
set_option linter.unusedVariables false
set_option linter.unusedSimpArgs false
set_option linter.unusedVariables false
open Go.RowKit

/-- A pair as it lies in memory. -/
structure PV where
  a : TV
  b : TV
  src : Int
  id : Int
theorem inhP : Nonempty (Inhabited PV) := ⟨⟨⟨⟨⟨#[]⟩, false, ⟨none, 0, 0⟩, ⟨none, 0, 0⟩, ⟨none, 0, 0⟩⟩, ⟨⟨#[]⟩, false, ⟨none, 0, 0⟩, ⟨none, 0, 0⟩, ⟨none, 0, 0⟩⟩, 0, 0⟩⟩⟩
abbrev encP (p : PV) : List Value := [.string p.a.name, .bool p.a.enum, .slice p.a.fields.a p.a.fields.len p.a.fields.cap, .slice p.a.gone.a p.a.gone.len p.a.gone.cap, .slice p.a.items.a p.a.items.len p.a.items.cap, .string p.b.name, .bool p.b.enum, .slice p.b.fields.a p.b.fields.len p.b.fields.cap, .slice p.b.gone.a p.b.gone.len p.b.gone.cap, .slice p.b.items.a p.b.items.len p.b.items.cap, .int .i64 p.src, .int .i64 p.id]
def sameV (p q : PV) : Bool := (q.a.name.toList == p.a.name.toList) && (q.b.name.toList == p.b.name.toList)
set_option maxHeartbeats 1600000 in
theorem same_any (q p : PV) (T : Nat) (w : World) (hT : w.heap[T]? = some (.cells (encP p).toArray 54 (0, 0))) :
    Calls Tryz.prog 48 #[.agg (encP q).toArray, .pointer (some ⟨T, 0, none⟩)] w fun e w' => e = .returned (.bool (sameV p q)) ∧ Ext w w' := by
  obtain ⟨⟨n1, e1, ⟨fa1, fl1, fc1⟩, ⟨ga1, gl1, gc1⟩, ⟨ia1, il1, ic1⟩⟩, ⟨n2, e2, ⟨fa2, fl2, fc2⟩, ⟨ga2, gl2, gc2⟩, ⟨ia2, il2, ic2⟩⟩, s1, i1⟩ := p
  obtain ⟨⟨m1, e3, ⟨fa3, fl3, fc3⟩, ⟨ga3, gl3, gc3⟩, ⟨ia3, il3, ic3⟩⟩, ⟨m2, e4, ⟨fa4, fl4, fc4⟩, ⟨ga4, gl4, gc4⟩, ⟨ia4, il4, ic4⟩⟩, s2, i2⟩ := q
  simp only [encP] at hT ⊢
  obtain ⟨d0, d1, d2, d3, d4, d5, d6, d7, d8, d9, d10, d11, _⟩ := rowN12 hT
  have hz := lt_of_heap hT
  clear hT
  go_enter Tryz.func48, Tryz.ntmps48
  cases hb : (m1.toList == n1.toList)
  all_goals
    go_wp2
    go_ret
    refine ⟨ret_bool ?_, (Ext.refl w).alloc _⟩
    simp [sameV, hb]
theorem cell_owns {w : World} {base : Nat} {e : TypeId} {k n : Nat} {b c : Nat} {xs : List Value} (h : w.ownsRow base e k (.slice (some ⟨b, 0, none⟩) n c) n xs) {j : Nat} {v : Value} (hv : xs[j]? = some v) : w.cell? ⟨b, j, none⟩ = some v := by
  rcases h.2 with ⟨e, _⟩ | ⟨g, cap, cur, e, _, hg, hc, hm, hs, ht⟩
  · cases e
  · cases e
    rw [cell_of_row w b j cur _ _ hg, ← hv, ← ht, List.getElem?_take, if_pos]
    · simp
    · have := (List.getElem?_eq_some_iff.1 hv).1
      rw [h.1] at this; exact this
theorem enter_of {P : Program} {f : FuncId} {fn : Func} {c : Code} (hf : P.funcs[f]? = some fn) (hname : (fn.name == "runtime.NumGoroutine") = false) (hb : fn.body = some c) (args : Array Value) (w : World) :
    (callFunc f args).run P w = .ok (.enter f args) w := by
  have h1 : fn.name ≠ "runtime.NumGoroutine" := by simpa using hname
  simp [callFunc, hf, h1, hb]
theorem encP_len (p : PV) : (encP p).length = 12 := rfl
theorem encP_at [Inhabited PV] : ∀ {l : List PV} {j i : Nat} {v : Value}, j < l.length → (encP l[j]!)[i]? = some v → (l.flatMap encP)[j * 12 + i]? = some v
  | [], j, i, v, h, _ => by simp at h
  | x :: l, 0, i, v, h, hv => by
    have hi := (List.getElem?_eq_some_iff.1 hv).1
    rw [List.flatMap_cons, List.getElem?_append_left (by rw [encP_len] at hi ⊢; omega)]
    simpa using hv
  | x :: l, j + 1, i, v, h, hv => by
    rw [List.flatMap_cons, List.getElem?_append_right (by rw [encP_len]; omega), encP_len, show (j + 1) * 12 + i - 12 = j * 12 + i by omega]
    exact encP_at (by simpa using h) (by simpa using hv)
theorem has_any (p : PV) (T : Nat) (l : List PV) (sv : SV) (B : Nat) (w : World) (hT : w.heap[T]? = some (.cells (encP p).toArray 54 (0, 0))) (ho : w.ownsRow B 54 12 (.slice sv.a sv.len sv.cap) l.length (l.flatMap encP)) (hl : l.length ≤ 1000) (hne : sv.a ≠ none) :
    Calls Tryz.prog 49 #[.slice sv.a sv.len sv.cap, .func (.func 48) #[] #[.pointer (some ⟨T, 0, none⟩)]] w fun e w' => e = .returned (.bool (l.any (sameV p))) ∧ Ext w w' := by
  obtain ⟨hin⟩ := inhP
  rcases ho.2 with ⟨e, _⟩ | ⟨g, cap, cur, e, hb, hg, hc, hm, hs, ht⟩
  · simp only [Value.slice.injEq] at e; exact absurd e.1 hne
  · rw [e] at ho ⊢
    have := AnyQ.slices_ContainsFunc Tryz.hasP 12 (fun w => Tryz.isAgg54 w) (fun w => Tryz.sizeOf54 w) encP encP_len (sameV p) 48 #[.pointer (some ⟨T, 0, none⟩)] (fun args w => enter_of Tryz.func48 (by kernel_rfl) rfl args w) g 0 l.length cap l w
      (fun W x hW => (same_any x p T W ((show Ext w W from hW).heap hT)).mono fun e w' ⟨h, hx⟩ => ⟨h, (show Ext w W from hW).trans hx⟩) (Nat.le_refl _) (by omega) (lt_of_heap hg) (fun j hj i v hv => by
        rw [Nat.zero_add]
        exact cell_owns ho (encP_at hj hv))
    rw [List.take_length] at this
    exact this
end Go.Proofs.YtnppgeiompimaaaGreatDoor

namespace Go.Proofs.YtnppgeiompimaaaGreatDoor
set_option linter.unusedSimpArgs false
set_option linter.unusedVariables false
open Go.RowKit

theorem ok_inj {α : Type} {v v' : α} {w w' : World} (h : (Result.ok v w : Result α) = .ok v' w') : v = v' := by cases h; rfl
/-- append to an owned row: where the row is afterwards. -/
theorem run_append_own2 {P : Program} (w : World) (base : Nat) (t ty e : TypeId) (i : TypeInfo) (z : Value) (size bytes : Nat) (ht : P.underlying t = some (.slice e)) (hi : P.info? e = some i) (hz : i.zero = some z)
    (hsize : i.size = size) (hby : i.bytes = bytes) (hzs : z.cells.size = size) (hsz : 0 < size)
    (v : Value) (n : Nat) (xs : List Value) (hown : w.ownsRow base e size v n xs)
    (a : Addr) (m c : Nat) (news : List Value) (hl : news.length = m * size) (hnews : ∀ j u, news[j]? = some u → w.cell? (a.add j) = some u) (h1 : ∀ u ∈ news, u.oneCell' = true)
    (h63 : n + m ≤ maxLen) (hbytes : (n + m) * bytes ≤ 140737488355328) (hbase : base ≤ w.heap.size) :
    ∃ v' w', (Builtin.append_ #[t, t] ty #[v, .slice (some a) m c]).run P w = .ok v' w' ∧ w'.ownsRow base e size v' (n + m) (xs ++ news) ∧ w.grownBy w' v.ownBlock ∧
      (v'.ownBlock = v.ownBlock ∨ ∀ k, v'.ownBlock = some k → w.heap.size ≤ k) := by
  obtain ⟨v', w', hr, h2, h3, h4⟩ := run_append_own (P := P) w base t ty e i z size bytes ht hi hz hsize hby hzs hsz v n xs hown a m c news hl hnews h1 h63 hbytes hbase
  refine ⟨v', w', hr, h2, h3, ?_⟩
  rcases hown.2 with ⟨rfl, rfl⟩ | ⟨g, cap, cur, rfl, hbg, hg, hnc, hcm, hcs, htake⟩
  · have hx : xs = [] := List.eq_nil_of_length_eq_zero (by simpa using hown.1)
    subst hx
    obtain ⟨v2, w2, hr2, ho2, _⟩ := run_append_own (P := P) w w.heap.size t ty e i z size bytes ht hi hz hsize hby hzs hsz (.slice none 0 0) 0 [] (World.ownsRow_nil w _ e size) a m c news hl hnews h1 h63 hbytes (Nat.le_refl _)
    rw [ok_inj (hr.symm.trans hr2)]
    exact .inr fun k hk => (ho2.lt k hk).1
  · by_cases hroom : n + m ≤ cap
    · obtain ⟨w2, hr2, _⟩ := run_append_own_spare (P := P) w base t ty e i size ht hi hsize g n cap xs hown a m c news hl hnews h1 hroom
      rw [ok_inj (hr.symm.trans hr2)]
      exact .inl rfl
    · have hsmall : n + m ≤ 9223372036854775807 := by simp only [maxLen] at h63; omega
      subst hsize hby
      have holds : ∀ j u, xs[j]? = some u → w.cell? ((⟨g, 0, none⟩ : Addr).add j) = some u := hown.cells (g := g) rfl
      have hr2 := run_append_grow (P := P) w t ty e i z ht hi hz ⟨g, 0, none⟩ n cap xs hown.1 holds a m c news hl hnews (by omega) (by omega) (growslice_fits (by omega) hbytes)
      rw [ok_inj (hr.symm.trans hr2)]
      exact .inr fun k hk => by simp [Value.ownBlock] at hk; omega
theorem wpList_app2 {P : Program} {w : World} {ops : Array Oper} {rest : List Oper} {o : Oper} {a : Act} {Q : Exit → Act → World → Prop} (s x : Operand) (t e : TypeId) (z : Value) (size bytes : Nat)
    (ht : P.underlying t = some (.slice e)) (hinfo : (P.info? e).map (fun i => (i.zero, i.size, i.bytes)) = some (some z, size, bytes)) (hzs : z.cells.size = size) (hsz : 0 < size) (hby : bytes ≤ 1000)
    (hgd : o.guard = none) (ho : o.op = .call { callee := .builtin .append, args := #[s, x], argTypes := #[t, t] })
    (base : Nat) (v : Value) (n : Nat) (xs : List Value) (hs : a.eval s = v) (hown : w.ownsRow base e size v n xs)
    (g c : Nat) (news : List Value) (hx : a.eval x = .slice (some ⟨g, 0, none⟩) 1 c) (hl : news.length = size) (hnews : w.rangeAt g 0 news) (h1 : ∀ u ∈ news, u.oneCell' = true)
    (hn : n < 1048576) (hbase : base ≤ w.heap.size)
    (h : ∀ v' w', w'.ownsRow base e size v' (n + 1) (xs ++ news) → w.grownBy w' v.ownBlock → (v'.ownBlock = v.ownBlock ∨ ∀ k, v'.ownBlock = some k → w.heap.size ≤ k) → wpList P ops Q rest (a.put o.dst v') w') : wpList P ops Q (o :: rest) a w := by
  obtain ⟨i, hi, hz0, hz1, hz2⟩ := info_parts hinfo
  refine wpList_plain hgd fun K hK => ?_
  obtain ⟨v', w', hr, h2, h3, h4⟩ := run_append_own2 (P := P) w base t o.type e i z size bytes ht hi hz0 hz1 hz2 hzs hsz v n xs hown ⟨g, 0, none⟩ 1 c news (by rw [hl, Nat.one_mul]) (fun j u hu => by rw [Addr.add_mid]; exact hnews j u hu) h1 (by unfold maxLen; omega)
    (by have : (n + 1) * bytes ≤ 1048576 * 1000 := Nat.mul_le_mul (by omega) hby
        omega) hbase
  unfold Oper.wp execOp
  simp only [ho, resolve, invoke, builtin, Sem.run_bind, Sem.run_pure, Result.andThen_ok, List.map_toArray, List.map_cons, List.map_nil, hs, hx, hr]
  exact hK _ _ (h v' w' h2 h3 h4)
end Go.Proofs.YtnppgeiompimaaaGreatDoor

namespace Go.Proofs.YtnppgeiompimaaaGreatDoor
set_option linter.unusedSimpArgs false
set_option linter.unusedVariables false
open Go.RowKit

theorem info54 : (Tryz.prog.info? 54).map (fun i => (i.zero, i.size, i.bytes)) = some (some (.agg #[.string ⟨#[]⟩, .bool false, .slice none 0 0, .slice none 0 0, .slice none 0 0, .string ⟨#[]⟩, .bool false, .slice none 0 0, .slice none 0 0, .slice none 0 0, .int .i64 0, .int .i64 0]), 12, 208) := by kernel_rfl
def addV (l : List PV) (p : PV) : List PV := if l.any (sameV p) = true then l else l ++ [p]
/-- A captured variable that holds a row of pairs. -/
structure PJ (w : World) (B T : Nat) (v : Value) (l : List PV) : Prop where
  row : w.heap[T]? = some (.cells #[v] 57 (0, 0))
  own : w.ownsRow B 54 12 v l.length (l.flatMap encP)
theorem PJ.ext {w w' : World} {B T : Nat} {v : Value} {l : List PV} (h : PJ w B T v l) (hx : Ext w w') : PJ w' B T v l := ⟨hx.heap h.row, owns_ext h.own hx⟩
theorem own_type {w : World} {B k n : Nat} {e : TypeId} {v : Value} {xs : List Value} (h : w.ownsRow B e k v n xs) {T : Nat} {cs : Array Value} {t : TypeId} (hT : w.heap[T]? = some (.cells cs t (0, 0))) (hne : t ≠ e) : some T ≠ v.ownBlock := by
  intro e
  rcases h.2 with ⟨rfl, _⟩ | ⟨g, cap, cur, rfl, _, hg, _⟩
  · cases e
  · cases e
    rw [hT] at hg
    simp only [Option.some.injEq, Obj.cells.injEq] at hg
    exact hne hg.2.1
theorem oneCell_encP (p : PV) : ∀ u ∈ encP p, u.oneCell' = true := by
  intro u hu
  simp only [encP, List.mem_cons, List.not_mem_nil, or_false] at hu
  rcases hu with rfl | rfl | rfl | rfl | rfl | rfl | rfl | rfl | rfl | rfl | rfl | rfl <;> rfl
set_option maxHeartbeats 3200000 in
set_option maxRecDepth 10000 in
theorem addp_any (p : PV) (B T : Nat) (v : Value) (l : List PV) (w : World) (hj : PJ w B T v l) (hl : l.length ≤ 1000) (hne : l ≠ []) (hB : B ≤ w.heap.size) :
    Calls Tryz.prog 47 #[.agg (encP p).toArray, .pointer (some ⟨T, 0, none⟩)] w fun e w' => e = .returned (.tuple #[]) ∧ (∃ v', PJ w' B T v' (addV l p) ∧ (v'.ownBlock = v.ownBlock ∨ ∀ k, v'.ownBlock = some k → w.heap.size ≤ k)) ∧ (∀ b, b < w.heap.size → b ≠ T → some b ≠ v.ownBlock → w'.heap[b]? = w.heap[b]?) ∧ w.heap.size ≤ w'.heap.size ∧ ∀ w0, Ext w0 w → w0.heap.size ≤ B → w0.heap.size ≤ T → Ext w0 w' := by
  obtain ⟨hT, ho⟩ := hj
  obtain ⟨sv, rfl, _⟩ := sliceAt_of_owns encP encP_len ho rfl
  have hna : sv.a ≠ none := by
    rcases ho.2 with ⟨_, e⟩ | ⟨g, cap, cur, e, _⟩
    · exact absurd (List.length_eq_zero_iff.1 e) hne
    · simp only [Value.slice.injEq] at e; rw [e.1]; simp
  have hz := lt_of_heap hT
  have htt := own_type ho hT (by decide)
  obtain ⟨W, hW⟩ : ∃ W, W = w.alloc (.cells (encP p).toArray 54) := ⟨_, rfl⟩
  have hxW : Ext w W := by rw [hW]; exact (Ext.refl w).alloc _
  have hsW : W.heap.size = w.heap.size + 1 := by rw [hW]; simp
  have rP : W.heap[w.heap.size]? = some (.cells (encP p).toArray 54 (0, 0)) := by rw [hW]; exact heap_alloc_new w _
  have HH := has_any p w.heap.size l sv B W rP (owns_ext ho hxW) hl hna
  have HH := hide HH
  have HW := hide hW
  have TW := hxW.heap hT
  obtain ⟨t0, tf⟩ := row1 TW
  obtain ⟨tw0, twf⟩ := row1 hT
  have Ho := hide (owns_ext ho hxW)
  have fr0 : ∀ b, b < w.heap.size → W.heap[b]? = w.heap[b]? := fun b hb => Below.block hxW b hb
  have Fr0 := hide fr0
  have RP := hide rP
  clear hW ho rP fr0
  unfold addV
  generalize l.any (sameV p) = h at *
  simp only [encP] at HW HH RP ⊢
  go_enter Tryz.func47, Tryz.ntmps47
  go_wp2_with fail
  rw [← unhide HW]
  refine (unhide HH).mono ?_
  rintro e w1 ⟨rfl, x1⟩
  have t1 := x1.cell t0
  have T1 := x1.heap TW
  have hz1 := lt_of_heap T1
  have Ho1 := hide (owns_ext (unhide Ho) x1)
  clear t0 tf Ho tw0 twf
  cases h with
  | true =>
    go_wp2
    exact bodyPost_nil (by simp [results, Tryz.results47, go_sem]) rfl ⟨rfl, ⟨_, ⟨T1, unhide Ho1⟩, .inl rfl⟩, fun b hb _ _ => by rw [Below.block x1 b (by omega)]; exact unhide Fr0 b hb, by have := x1.size; omega, fun w0 h0 _ _ => (h0.trans hxW).trans x1⟩
  | false =>
    have rP1 := x1.heap (unhide RP)
    obtain ⟨d0, d1, d2, d3, d4, d5, d6, d7, d8, d9, d10, d11, _⟩ := rowN12 rP1
    have zP1 := lt_of_heap rP1
    have hs1 := x1.size
    obtain ⟨tc1, tf1⟩ := row1 T1
    have hoa := (unhide Ho1).alloc (.cells (encP p).toArray 54)
    simp only [encP] at hoa
    go_wp2_with (at_builtin; refine wpList_app2 _ _ 57 54 (.agg #[.string ⟨#[]⟩, .bool false, .slice none 0 0, .slice none 0 0, .slice none 0 0, .string ⟨#[]⟩, .bool false, .slice none 0 0, .slice none 0 0, .slice none 0 0, .int .i64 0, .int .i64 0]) 12 208 Tryz.underlying57 info54 rfl (by decide) (by decide) rfl rfl B _ l.length _ rfl hoa w1.heap.size 1 (encP p) rfl rfl ?c1 (oneCell_encP p) ?c3 ?c4 ?_)
    case c1 => exact World.rangeAt_of_block (heap_alloc_new w1 _) 0 12
    case c3 => omega
    case c4 => simp; omega
    intro v8 W8 ho8 hg8 hb8
    have hxA : Ext w1 (w1.alloc (.cells #[.string p.a.name, .bool p.a.enum, .slice p.a.fields.a p.a.fields.len p.a.fields.cap, .slice p.a.gone.a p.a.gone.len p.a.gone.cap, .slice p.a.items.a p.a.items.len p.a.items.cap, .string p.b.name, .bool p.b.enum, .slice p.b.fields.a p.b.fields.len p.b.fields.cap, .slice p.b.gone.a p.b.gone.len p.b.gone.cap, .slice p.b.items.a p.b.items.len p.b.items.cap, .int .i64 p.src, .int .i64 p.id] 54)) := (Ext.refl w1).alloc _
    have hsA : (w1.alloc (.cells #[.string p.a.name, .bool p.a.enum, .slice p.a.fields.a p.a.fields.len p.a.fields.cap, .slice p.a.gone.a p.a.gone.len p.a.gone.cap, .slice p.a.items.a p.a.items.len p.a.items.cap, .string p.b.name, .bool p.b.enum, .slice p.b.fields.a p.b.fields.len p.b.fields.cap, .slice p.b.gone.a p.b.gone.len p.b.gone.cap, .slice p.b.items.a p.b.items.len p.b.items.cap, .int .i64 p.src, .int .i64 p.id] 54)).heap.size = w1.heap.size + 1 := by simp
    have ho8' : W8.ownsRow B 54 12 v8 (l ++ [p]).length ((l ++ [p]).flatMap encP) := by
      rw [List.length_append, List.length_singleton, List.flatMap_append]
      simpa using ho8
    have hk8 : ∀ b, b < w1.heap.size → some b ≠ Value.ownBlock (.slice sv.a sv.len sv.cap) → W8.heap[b]? = w1.heap[b]? := fun b hb hb' => by rw [hg8.block b (by rw [hsA]; omega) hb']; exact Below.block hxA b hb
    have hT8 : W8.heap[T]? = some (.cells #[.slice sv.a sv.len sv.cap] 57 (0, 0)) := by rw [hk8 T hz1 htt]; exact T1
    have hz8 := lt_of_heap hT8
    have he8 : ∀ w0, Ext w0 w1 → w0.heap.size ≤ B → Ext w0 W8 := fun w0 h hz0 => (h.trans hxA).owned hg8 hoa hz0
    obtain ⟨sv8, rfl, _⟩ := sliceAt_of_owns encP encP_len ho8' rfl
    obtain ⟨c8, f8⟩ := row1 hT8
    have h9 := heap_setCell_same W8 T 0 _ 57 (.slice sv8.a sv8.len sv8.cap) hT8
    simp only [List.setIfInBounds_toArray, List.set_cons_zero] at h9
    have hne8 := own_type ho8' hT8 (by decide)
    have ho9 : (W8.setCell ⟨T, 0, none⟩ (.slice sv8.a sv8.len sv8.cap)).ownsRow B 54 12 (.slice sv8.a sv8.len sv8.cap) (l ++ [p]).length ((l ++ [p]).flatMap encP) := ho8'.kept (grownBy_set1 W8 T 0 _) (.inr fun e => hne8 e.symm)
    have he9 : ∀ w0, Ext w0 w → w0.heap.size ≤ B → w0.heap.size ≤ T → Ext w0 (W8.setCell ⟨T, 0, none⟩ (.slice sv8.a sv8.len sv8.cap)) := fun w0 h hz0 hzT => (he8 w0 ((h.trans hxW).trans x1) hz0).setCell hzT _
    have hf9 : ∀ b, b < w.heap.size → b ≠ T → some b ≠ Value.ownBlock (.slice sv.a sv.len sv.cap) → (W8.setCell ⟨T, 0, none⟩ (.slice sv8.a sv8.len sv8.cap)).heap[b]? = w.heap[b]? := fun b hb hbT hbv => by
      rw [Below.heap_setCell _ _ _ _ hbT, hk8 b (by omega) hbv, Below.block x1 b (by omega)]; exact unhide Fr0 b hb
    have hb9 : Value.ownBlock (.slice sv8.a sv8.len sv8.cap) = Value.ownBlock (.slice sv.a sv.len sv.cap) ∨ ∀ k, Value.ownBlock (.slice sv8.a sv8.len sv8.cap) = some k → w.heap.size ≤ k := hb8.imp id fun h k hk => by have := h k hk; omega
    have hs9 : w.heap.size ≤ (W8.setCell ⟨T, 0, none⟩ (.slice sv8.a sv8.len sv8.cap)).heap.size := by rw [size_setCell]; have := hg8.size; rw [hsA] at this; omega
    have H9 := hide (And.intro h9 (And.intro ho9 (And.intro he9 (And.intro hf9 (And.intro hb9 hs9)))))
    clear ho8 hg8 hb8 hoa ho8' hk8 he8 h9 ho9 he9 hf9 hb9 hs9 hxA hsA d0 d1 d2 d3 d4 d5 d6 d7 d8 d9 d10 d11 t1 tc1 tf1 rP1 HH HW RP Fr0 Ho1
    go_wp2
    obtain ⟨h9, ho9, he9, hf9, hb9, hs9⟩ := unhide H9
    exact bodyPost_nil (by simp [results, Tryz.results47, go_sem]) rfl ⟨rfl, ⟨_, ⟨h9, ho9⟩, hb9⟩, hf9, hs9, he9⟩
end Go.Proofs.YtnppgeiompimaaaGreatDoor

namespace Go.Proofs.YtnppgeiompimaaaGreatDoor
set_option linter.unusedSimpArgs false
set_option linter.unusedVariables false
open Go.RowKit

def Blk (s : SV) (n : Nat) (P : Nat → Prop) : Prop := n ≠ 0 → ∀ ad, s.a = some ad → P ad.block
structure TOff (tv : TV) (t : TypeM) (P : Nat → Prop) : Prop where
  f : Blk tv.fields t.fields.length P
  g : Blk tv.gone t.gone.length P
  i : Blk tv.items t.items.length P
theorem TOff.imp {tv : TV} {t : TypeM} {P Q : Nat → Prop} (h : TOff tv t P) (hi : ∀ b, P b → Q b) : TOff tv t Q := ⟨fun n ad e => hi _ (h.f n ad e), fun n ad e => hi _ (h.g n ad e), fun n ad e => hi _ (h.i n ad e)⟩
theorem TOff.and {tv : TV} {t : TypeM} {P Q : Nat → Prop} (h : TOff tv t P) (k : TOff tv t Q) : TOff tv t (fun b => P b ∧ Q b) := ⟨fun n ad e => ⟨h.f n ad e, k.f n ad e⟩, fun n ad e => ⟨h.g n ad e, k.g n ad e⟩, fun n ad e => ⟨h.i n ad e, k.i n ad e⟩⟩
theorem SliceAt.frame {α : Type} {k : Nat} {R : List Value → α → Prop} {w W : World} {s : SV} {l : List α} (h : SliceAt k (fun _ cs x => R cs x) w s l) {P : Nat → Prop} (o : Blk s l.length P) (hb : ∀ b, P b → W.heap[b]? = w.heap[b]?) : SliceAt k (fun _ cs x => R cs x) W s l :=
  ⟨h.1, fun i x hx => let ⟨b, o', cs, h1, h2, h3⟩ := h.2 i x hx; ⟨b, o', cs, h1, fun j v hv => by rw [World.cell?_of_block (w := w) (show W.heap[b]? = w.heap[b]? from hb _ (o (fun e => by have := (List.getElem?_eq_some_iff.1 hx).1; omega) _ h1))]; exact h2 j v hv, h3⟩⟩
theorem SliceAt.blk {α : Type} {k : Nat} {R : List Value → α → Prop} {w : World} {s : SV} {l : List α} (h : SliceAt k (fun _ cs x => R cs x) w s l) (hR : ∀ cs x, R cs x → cs ≠ []) : Blk s l.length (fun b => b < w.heap.size) := fun hn ad ha => by
  cases l with
  | nil => simp at hn
  | cons x m =>
    obtain ⟨b, o, cs, h1, h2, h3⟩ := h.2 0 x rfl
    cases cs with
    | nil => exact absurd rfl (hR _ _ h3)
    | cons v r =>
      have := World.block_lt_of_cell? _ _ (h2 0 v rfl)
      rw [ha] at h1
      cases h1
      exact this
theorem TypeAt.frame {w W : World} {tv : TV} {t : TypeM} (h : TypeAt w tv t) {P : Nat → Prop} (o : TOff tv t P) (hb : ∀ b, P b → W.heap[b]? = w.heap[b]?) : TypeAt W tv t :=
  ⟨h.name, h.enum, SliceAt.frame h.fields o.f hb, SliceAt.frame h.gone o.g hb, SliceAt.frame h.items o.i hb, h.fok, h.gok, h.iok⟩
theorem TypeAt.blk {w : World} {tv : TV} {t : TypeM} (h : TypeAt w tv t) : TOff tv t (fun b => b < w.heap.size) :=
  ⟨SliceAt.blk h.fields fun cs x e => by rw [e]; simp, SliceAt.blk h.gone fun cs x e => by rw [e]; simp, SliceAt.blk h.items fun cs x e => by rw [e]; simp⟩
theorem TOff.of_fresh {w : World} {tv : TV} {t : TypeM} (h : tv.Fresh w) : TOff tv t (fun b => w.heap.size ≤ b) := ⟨fun _ ad e => h.1 ad e, fun _ ad e => h.2.1 ad e, fun _ ad e => h.2.2 ad e⟩

def QB (w : World) (T : Nat) (ob : Option Nat) (b : Nat) : Prop := b < w.heap.size ∧ b ≠ T ∧ some b ≠ ob
structure PairOk (w : World) (T : Nat) (ob : Option Nat) (x : PV) (p : PairM) : Prop where
  a : TypeAt w x.a p.a
  b : TypeAt w x.b p.b
  src : x.src = p.src
  id : x.id = p.id
  oa : TOff x.a p.a (QB w T ob)
  ob : TOff x.b p.b (QB w T ob)
theorem PairOk.frame {w W : World} {T : Nat} {ob ob' : Option Nat} {x : PV} {p : PairM} (h : PairOk w T ob x p) (hf : ∀ b, b < w.heap.size → b ≠ T → some b ≠ ob → W.heap[b]? = w.heap[b]?) (hs : w.heap.size ≤ W.heap.size) (ho : ob' = ob ∨ ∀ k, ob' = some k → w.heap.size ≤ k) : PairOk W T ob' x p := by
  have hq : ∀ b, QB w T ob b → QB W T ob' b := fun b ⟨h1, h2, h3⟩ => ⟨by omega, h2, by
    rcases ho with rfl | ho
    · exact h3
    · intro e; have := ho b e.symm; omega⟩
  exact ⟨h.a.frame h.oa fun b ⟨h1, h2, h3⟩ => hf b h1 h2 h3, h.b.frame h.ob fun b ⟨h1, h2, h3⟩ => hf b h1 h2 h3, h.src, h.id, h.oa.imp hq, h.ob.imp hq⟩
theorem PairOk.ext {w W : World} {T : Nat} {ob : Option Nat} {x : PV} {p : PairM} (h : PairOk w T ob x p) (hx : Ext w W) : PairOk W T ob x p :=
  h.frame (fun b hb _ _ => Below.block hx b hb) hx.size (.inl rfl)
theorem PairOk.old {w W : World} {T : Nat} {ob : Option Nat} {x : PV} {p : PairM} (ha : TypeAt w x.a p.a) (hb : TypeAt w x.b p.b) (hs : x.src = p.src) (hi : x.id = p.id) (hx : Ext w W) (hT : w.heap.size ≤ T) (ho : ∀ k, ob = some k → w.heap.size ≤ k) : PairOk W T ob x p := by
  have hq : ∀ b, b < w.heap.size → QB W T ob b := fun b hb => ⟨by have := hx.size; omega, by omega, fun e => by have := ho b e.symm; omega⟩
  exact ⟨ha.ext hx, hb.ext hx, hs, hi, ha.blk.imp hq, hb.blk.imp hq⟩
theorem PairOk.new {w W : World} {T : Nat} {ob : Option Nat} {x : PV} {p : PairM} (ha : TypeAt W x.a p.a) (hb : TypeAt W x.b p.b) (hs : x.src = p.src) (hi : x.id = p.id) (fa : x.a.Fresh w) (fb : x.b.Fresh w) (hT : T < w.heap.size) (ho : ∀ k, ob = some k → k < w.heap.size) : PairOk W T ob x p := by
  have hq : ∀ b, w.heap.size ≤ b ∧ b < W.heap.size → QB W T ob b := fun b ⟨h, h'⟩ => ⟨h', by omega, fun e => by have := ho b e.symm; omega⟩
  exact ⟨ha, hb, hs, hi, ((TOff.of_fresh fa).and ha.blk).imp hq, ((TOff.of_fresh fb).and hb.blk).imp hq⟩
/-- Pairs in memory, one by one. -/
def PairsOk (w : World) (T : Nat) (ob : Option Nat) (l : List PV) (m : List PairM) : Prop := l.length = m.length ∧ ∀ (i : Nat) (x : PV) (p : PairM), l[i]? = some x → m[i]? = some p → PairOk w T ob x p
theorem PairsOk.frame {w W : World} {T : Nat} {ob ob' : Option Nat} {l : List PV} {m : List PairM} (h : PairsOk w T ob l m) (hf : ∀ b, b < w.heap.size → b ≠ T → some b ≠ ob → W.heap[b]? = w.heap[b]?) (hs : w.heap.size ≤ W.heap.size) (ho : ob' = ob ∨ ∀ k, ob' = some k → w.heap.size ≤ k) : PairsOk W T ob' l m :=
  ⟨h.1, fun i x p hx hp => (h.2 i x p hx hp).frame hf hs ho⟩
theorem PairsOk.ext {w W : World} {T : Nat} {ob : Option Nat} {l : List PV} {m : List PairM} (h : PairsOk w T ob l m) (hx : Ext w W) : PairsOk W T ob l m := ⟨h.1, fun i x p hx' hp => (h.2 i x p hx' hp).ext hx⟩
theorem PairsOk.add {w : World} {T : Nat} {ob : Option Nat} {l : List PV} {m : List PairM} (h : PairsOk w T ob l m) {x : PV} {p : PairM} (hp : PairOk w T ob x p) : PairsOk w T ob (addV l x) (addP m p) := by
  have hs : ∀ y q, PairOk w T ob y q → sameV x y = sameP p q := fun y q hy => by unfold sameV sameP; rw [hy.a.name, hy.b.name, hp.a.name, hp.b.name]
  have hany : l.any (sameV x) = m.any (sameP p) := by
    obtain ⟨hl, hall⟩ := h
    clear hp
    induction l generalizing m with
    | nil => cases m with
      | nil => rfl
      | cons q m => simp at hl
    | cons y l ih => cases m with
      | nil => simp at hl
      | cons q m =>
        rw [List.any_cons, List.any_cons, hs y q (hall 0 y q rfl rfl), ih (by simpa using hl) fun i a b ha hb => hall (i + 1) a b ha hb]
  unfold addV addP
  rw [hany]
  split
  · exact h
  · refine ⟨by rw [List.length_append, List.length_append, h.1]; rfl, fun i y q hy hq => ?_⟩
    by_cases hi : i < l.length
    · rw [List.getElem?_append_left hi] at hy
      rw [List.getElem?_append_left (by rw [← h.1]; exact hi)] at hq
      exact h.2 i y q hy hq
    · rw [List.getElem?_append_right (by omega)] at hy
      rw [List.getElem?_append_right (by rw [← h.1]; omega), ← h.1] at hq
      have hj : i - l.length = 0 := by
        have := (List.getElem?_eq_some_iff.1 hy).1
        simp at this; omega
      rw [hj] at hy hq
      cases hy
      cases hq
      exact hp
end Go.Proofs.YtnppgeiompimaaaGreatDoor

