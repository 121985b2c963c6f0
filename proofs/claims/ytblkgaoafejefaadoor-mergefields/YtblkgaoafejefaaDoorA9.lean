import Derived.Test.YtblkgaoafejefaaDoorA6
namespace Go.Proofs.YtblkgaoafejefaaDoor
set_option linter.unusedSimpArgs false
set_option linter.unusedVariables false
open Go.RowKit Go.Sort

def ltL (x y : List UInt8) : Bool := decide (x < y)
theorem ordL : Ord3 ltL := ⟨fun x => by simp [ltL, List.lt_irrefl], fun x y z h1 h2 => by simp only [ltL, decide_eq_true_eq] at *; exact List.lt_trans h1 h2,
  fun x y h1 h2 => by simp only [ltL, decide_eq_false_iff_not, List.not_lt] at *; exact List.le_antisymm h2 h1⟩
theorem sortStr_rise (l : List (List UInt8)) : (l.mergeSort fun x y => decide (x ≤ y)).Pairwise (fun x y => ltL y x = false) ∧ ∀ z, z ∈ (l.mergeSort fun x y => decide (x ≤ y)) ↔ z ∈ l := by
  refine ⟨(List.pairwise_mergeSort (le := fun x y : List UInt8 => decide (x ≤ y)) (fun a b c h1 h2 => by simp only [decide_eq_true_eq] at *; exact List.le_trans h1 h2) (fun a b => by simp only [Bool.or_eq_true, decide_eq_true_eq]; exact List.le_total a b) l).imp fun h => by simp only [ltL, decide_eq_true_eq, decide_eq_false_iff_not, List.not_lt] at *; exact h, fun z => List.mem_mergeSort⟩
theorem unions_names (l : List ByteArray) : unions ltL (l.map (·.toList)) = (unions ltN l).map (·.toList) := by
  refine rise_same ordL _ _ (rise_unions ordL _) ?_ fun z => ?_
  · rw [List.pairwise_map]; exact (rise_unions ordN l).imp fun h => h
  · rw [mem_unions ordL, List.mem_map, List.mem_map]
    constructor
    · rintro ⟨x, hx, rfl⟩; exact ⟨x, (mem_unions ordN x l).2 hx, rfl⟩
    · rintro ⟨x, hx, rfl⟩; exact ⟨x, (mem_unions ordN x l).1 hx, rfl⟩
theorem str_back (x : ByteArray) : (⟨x.toList.toArray⟩ : ByteArray) = x := bytes_ext (by rw [bytes_toList])
theorem encStr_toList (x : ByteArray) : encStr x.toList = .string x := by unfold encStr; rw [str_back]
theorem row_names (l : List ByteArray) : l.flatMap encS = (l.map (·.toList)).flatMap fun y => [encStr y] := by
  induction l with
  | nil => rfl
  | cons x l ih => rw [List.flatMap_cons, List.map_cons, List.flatMap_cons, ih, encStr_toList]; rfl
theorem sortCompactS_any (base : Nat) (sv : SV) (ns : List ByteArray) (w0 w : World) (ho0 : w.ownsRow base 9 1 (.slice sv.a sv.len sv.cap) ns.length (ns.flatMap encS)) (hx : Ext w0 w) (hb : w0.heap.size ≤ base) (hl0 : ns.length ≤ 4611686018427387903) :
    Calls Tryd.prog 21 #[.slice sv.a sv.len sv.cap] w fun e w1 => e = .returned (.tuple #[]) ∧ Ext w0 w1 ∧ Calls Tryd.prog 22 #[.slice sv.a sv.len sv.cap] w1 fun e w' => ∃ sv' : SV, e = .returned (.slice sv'.a sv'.len sv'.cap) ∧ StrsAt w' sv' (unions ltN ns) ∧ sv'.ok ∧ sv'.Fresh w0 ∧ Ext w0 w' := by
  obtain ⟨a, n, cap⟩ := sv
  obtain ⟨l, hle⟩ : ∃ l, l = ns.map (·.toList) := ⟨_, rfl⟩
  have hll : l.length = ns.length := by rw [hle]; simp
  have hun : unions ltL l = (unions ltN ns).map (·.toList) := by rw [hle]; exact unions_names ns
  have ho : w.ownsRow base 9 1 (.slice a n cap) l.length (l.flatMap fun y => [encStr y]) := by rw [hll, hle, ← row_names]; exact ho0
  have hl : l.length ≤ 4611686018427387903 := by omega
  by_cases h0 : l = []
  · have hns : ns = [] := by cases ns with
      | nil => rfl
      | cons x t => rw [hle] at h0; cases h0
    subst hns
    have hn : n = 0 := by
      obtain ⟨s', e, h', _⟩ := sliceAt_of_owns encS (fun _ => rfl) ho0 rfl
      simp only [Value.slice.injEq] at e
      simp at h'
      omega
    subst hn
    refine (Tryd.slices_Sort_string_none a cap w).mono ?_
    rintro e w1 ⟨rfl, rfl⟩
    refine ⟨rfl, hx, ?_⟩
    refine (Tryd.slices_Compact_string_empty a cap w1).mono ?_
    rintro e w2 ⟨rfl, rfl⟩
    exact ⟨⟨a, 0, cap⟩, rfl, ⟨rfl, fun i x hx => by simp [unions] at hx⟩, ok_of_owns ho, fresh_of_owns ho hb, hx⟩
  · obtain ⟨g, cap', hv, hg, hH, hsort⟩ := sorted1_own encStr ho h0
    simp only [Value.slice.injEq] at hv
    obtain ⟨rfl, rfl, rfl⟩ := hv
    refine (Tryd.slices_Sort_string g 0 cap l w hH hg (by omega)).mono ?_
    rintro e w1 ⟨rfl, m, os, hw1⟩
    obtain ⟨h1, h2⟩ := hsort (l.mergeSort fun x y => decide (x ≤ y)).toArray m os (by simp)
    have hw1' : w1 = sortWorld encStr w g 0 m (l.mergeSort fun x y => decide (x ≤ y)).toArray os := hw1
    rw [← hw1'] at h1 h2
    have hgb : w0.heap.size ≤ g := Nat.le_trans hb (ho.lt g rfl).1
    have hx1 : Ext w0 w1 := hx.grown h2 (fun k hk => by cases hk; exact hgb)
    refine ⟨rfl, hx1, ?_⟩
    obtain ⟨zs, hzs⟩ : ∃ zs, zs = l.mergeSort fun x y => decide (x ≤ y) := ⟨_, rfl⟩
    have hlen : zs.length = l.length := by rw [hzs]; simp
    rw [← hzs] at h1
    have h1' : w1.ownsRow base 9 1 (.slice (some ⟨g, 0, none⟩) l.length cap) zs.length (zs.flatMap fun x => [encStr x]) := by rw [hlen]; simpa using h1
    obtain ⟨g', cap', hv, hg', hH', hsort'⟩ := sorted1_own encStr h1' (fun e => h0 (List.length_eq_zero_iff.1 (by rw [← hlen, e]; rfl)))
    simp only [Value.slice.injEq, Option.some.injEq, Addr.mk.injEq] at hv
    obtain ⟨⟨rfl, _⟩, _, rfl⟩ := hv
    have hcap : zs.length ≤ cap := by
      have := (ok_of_owns (s := ⟨some ⟨g, 0, none⟩, l.length, cap⟩) h1').1
      simp only at this
      omega
    rw [← hlen]
    refine (Tryd.slices_Compact_string g 0 cap zs w1 hH' (by omega) hcap).mono ?_
    rintro e w2 ⟨rfl, q, hw2⟩
    have hr := sortStr_rise l
    rw [← hzs] at hr
    have hc : Lib.compact zs = unions ltL l := compact_unions ordL hr.1 hr.2
    rw [hc] at hw2 ⊢
    have hcl : (unions ltL l).length ≤ zs.length := by
      rw [← hc]
      unfold Lib.compact Lib.compactUpTo
      rw [List.length_map]
      exact Nat.le_trans (List.length_filter_le _ _) (by simp)
    obtain ⟨h3, h4⟩ := hsort' (unions ltL l ++ List.replicate (zs.length - (unions ltL l).length) []).toArray q #[] (by simp; omega)
    have hw2' : w2 = sortWorld encStr w1 g 0 q (unions ltL l ++ List.replicate (zs.length - (unions ltL l).length) []).toArray #[] := by rw [hw2]; exact (grow_empty _).symm
    rw [← hw2'] at h3 h4
    have hul : (unions ltL l).length = (unions ltN ns).length := by rw [hun]; simp
    refine ⟨⟨some ⟨g, 0, none⟩, (unions ltL l).length, cap⟩, rfl, ?_, ⟨by simp only; omega, fun h => by cases h⟩, fun ad h => by cases h; exact hgb, hx1.grown h4 (fun k hk => by cases hk; exact hgb)⟩
    have e9 : (unions ltL l ++ List.replicate (zs.length - (unions ltL l).length) ([] : List UInt8)).length = zs.length := by simp; omega
    have h5 : w2.ownsRow base 9 1 (.slice (some ⟨g, 0, none⟩) zs.length cap) (unions ltL l ++ List.replicate (zs.length - (unions ltL l).length) []).length ((unions ltL l ++ List.replicate (zs.length - (unions ltL l).length) []).flatMap fun y => [encStr y]) := by
      rw [e9]
      have h3' : w2.ownsRow base 9 1 (.slice (some ⟨g, 0, none⟩) l.length cap) zs.length ((unions ltL l ++ List.replicate (zs.length - (unions ltL l).length) []).flatMap fun y => [encStr y]) := h3
      rw [hlen] at h3' ⊢
      exact h3'
    obtain ⟨s', hs', hat⟩ := sliceAt_of_owns (fun y : List UInt8 => [encStr y]) (fun _ => rfl) h5 rfl
    simp only [Value.slice.injEq] at hs'
    refine ⟨hul, fun i x hx => ?_⟩
    have hi : (unions ltL l)[i]? = some x.toList := by rw [hun, List.getElem?_map, hx]; rfl
    obtain ⟨b, o, cs, h6, h7, h8⟩ := hat.2 i x.toList (by rw [List.getElem?_append_left (List.getElem?_eq_some_iff.1 hi).1]; exact hi)
    exact ⟨b, o, cs, by rw [hs'.1]; exact h6, h7, by rw [h8, encStr_toList]⟩
def accB (bs : List (SV × BookM)) (k : Nat) : List ByteArray := (bs.take k).flatMap fun p => p.2.map (·.name)
def preB (acc : List ByteArray) (l : BookM) (j : Nat) : List ByteArray := acc ++ (l.take j).map (·.name)
theorem preB_zero (acc : List ByteArray) (l : BookM) : preB acc l 0 = acc := by simp [preB]
theorem preB_succ (acc : List ByteArray) {l : BookM} {j : Nat} (h : j < l.length) : preB acc l (j + 1) = preB acc l j ++ [l[j].name] := by unfold preB; rw [List.take_succ_eq_append_getElem h, List.map_append, List.append_assoc]; rfl
theorem preB_end (acc : List ByteArray) {l : BookM} {j : Nat} (h : ¬ j < l.length) : preB acc l j = acc ++ l.map (·.name) := by unfold preB; rw [List.take_of_length_le (by omega)]
theorem preB_len (acc : List ByteArray) (l : BookM) (j : Nat) : (preB acc l j).length ≤ acc.length + l.length := by unfold preB; simp; omega
theorem accB_succ {bs : List (SV × BookM)} {k : Nat} (h : k < bs.length) : accB bs (k + 1) = accB bs k ++ bs[k].2.map (·.name) := by unfold accB; rw [List.take_succ_eq_append_getElem h, List.flatMap_append]; simp
theorem accB_len {bs : List (SV × BookM)} (h : ∀ p ∈ bs, p.2.length ≤ 1000) (k : Nat) : (accB bs k).length ≤ k * 1000 := by
  induction k with
  | zero => exact Nat.zero_le _
  | succ k ih =>
    by_cases hk : k < bs.length
    · rw [accB_succ hk, List.length_append, List.length_map]
      have := h _ (List.getElem_mem hk)
      omega
    · have e : accB bs (k + 1) = accB bs k := by unfold accB; rw [List.take_of_length_le (by omega), List.take_of_length_le (by omega)]
      rw [e]; exact Nat.le_trans ih (Nat.mul_le_mul_right _ (Nat.le_succ _))
set_option maxHeartbeats 6400000 in
set_option maxRecDepth 20000 in
theorem typeNames_any (gb cap : Nat) (bs : List (SV × BookM)) (w : World) (hb3 : bs.length ≤ 3) (hc : ∀ k (hk : k < bs.length), w.cell? ⟨gb, k, none⟩ = some (.slice bs[k].1.a bs[k].1.len bs[k].1.cap)) (hbk : ∀ p ∈ bs, BookAt w p.1 p.2) (hbl : ∀ p ∈ bs, p.2.length ≤ 1000) :
    Calls Tryd.prog 11 #[.slice (some ⟨gb, 0, none⟩) bs.length cap] w fun e w' => ∃ sv : SV, e = .returned (.slice sv.a sv.len sv.cap) ∧ StrsAt w' sv (unions ltN (bs.flatMap fun p => p.2.map (·.name))) ∧ sv.ok ∧ sv.Fresh w ∧ Ext w w' := by
  have Hc := hide hc
  have Hbk := hide hbk
  have hacc : Hid (∀ k, (accB bs k).length ≤ k * 1000) := accB_len hbl
  have Hbl := hide hbl
  clear hc hbk hbl
  go_enter Tryd.func11, Tryd.ntmps11
  go_wp2
  go_loopw [3, 10] (fun l i wr => ∃ (k : Nat) (sv : SV), k ≤ bs.length ∧ i = .int .i64 k ∧ l = .slice sv.a sv.len sv.cap ∧ wr.ownsRow w.heap.size 9 1 (.slice sv.a sv.len sv.cap) (accB bs k).length ((accB bs k).flatMap encS) ∧ Ext w wr) (fun _ i _ => bs.length - (intOf i).toNat)
  case atStart => exact ⟨0, ⟨none, 0, 0⟩, by omega, rfl, rfl, owns_nil _ _ _ _, Ext.refl _⟩
  case round =>
    obtain ⟨k, sv, hk, rfl, rfl, ho, hE⟩ := hrel
    rename World => wo
    have hbw := hE.size
    by_cases hlt : k < bs.length
    · have hcell := hE.cell (unhide Hc k hlt)
      have HB := hide (unhide Hbk bs[k] (List.getElem_mem hlt))
      have hnl := unhide Hbl bs[k] (List.getElem_mem hlt)
      have hstep : Hid (accB bs (k + 1) = accB bs k ++ bs[k].2.map (·.name)) := accB_succ hlt
      have hal := unhide hacc k
      generalize bs[k] = p at *
      obtain ⟨⟨ba, bn, bc⟩, ts⟩ := p
      have hl := (unhide HB).1
      simp only at hl hcell hnl HB hstep
      subst hl
      have hw1 : Ext wo (wo.alloc (.cells #[.slice ba ts.length bc] 24)) := (Ext.refl wo).alloc _
      go_wp2
      go_loopw [3, 17] (fun l i wr => ∃ (j : Nat) (sv : SV), j ≤ ts.length ∧ i = .int .i64 j ∧ l = .slice sv.a sv.len sv.cap ∧ wr.ownsRow w.heap.size 9 1 (.slice sv.a sv.len sv.cap) (preB (accB bs k) ts j).length ((preB (accB bs k) ts j).flatMap encS) ∧ Ext w wr) (fun _ i _ => ts.length - (intOf i).toNat)
      case atStart => exact ⟨0, sv, by omega, rfl, rfl, by rw [preB_zero]; exact owns_ext ho hw1, hE.trans hw1⟩
      case round =>
        clear ho hE hw1 hbw
        obtain ⟨j, sv, hj, rfl, rfl, ho, hE⟩ := hrel
        have hbw := hE.size
        by_cases hlt2 : j < ts.length
        · obtain ⟨ib, io, cs, eia, hri, tv, rfl, htv⟩ := (unhide HB).2 j ts[j] (by simp [hlt2])
          simp only at eia
          subst eia
          obtain ⟨i0, i1, i2, i3, i4⟩ := range5 (hE.range hri)
          have hnx : Hid (preB (accB bs k) ts (j + 1) = preB (accB bs k) ts j ++ [tv.name]) := by unfold Hid; rw [preB_succ _ hlt2, htv.name]
          have hpl : (preB (accB bs k) ts j).length ≤ 4000 := Nat.le_trans (preB_len _ _ _) (by omega)
          obtain ⟨tn, te, tf, tg, ti⟩ := tv
          simp only at i0 i1 i2 i3 i4 hnx
          have hx1 : Ext wr (wr.alloc (.cells #[.string tn, .bool te, .slice tf.a tf.len tf.cap, .slice tg.a tg.len tg.cap, .slice ti.a ti.len ti.cap] 46)) := (Ext.refl wr).alloc _
          have ho1 := owns_ext ho hx1
          clear hri htv
          go_wp2_with (at_builtin; refine wpList_app1 _ _ 40 9 (.string ⟨#[]⟩) 1 16 Tryd.underlying40 info9 rfl (by decide) (by decide) rfl rfl w.heap.size _ (preB (accB bs k) ts j).length _ rfl (ho1.alloc _) (wr.heap.size + 1) 1 [.string tn] rfl rfl ?c1 ?c2 ?c3 ?c4 ?_)
          case c1 => exact range_of_new1 _ _ _ (by simp)
          case c2 => first | rfl | (intro u hu; simp at hu; subst hu; rfl)
          case c3 => omega
          case c4 => first | omega | (simp; omega)
          intro v8 W8 ho8 hg8
          have ho8' : W8.ownsRow w.heap.size 9 1 v8 (preB (accB bs k) ts j ++ [tn]).length ((preB (accB bs k) ts j ++ [tn]).flatMap encS) := by
            rw [List.length_append, List.length_singleton, List.flatMap_append]
            simpa [encS] using ho8
          obtain ⟨sv', hsv', _⟩ := sliceAt_of_owns encS (fun _ => rfl) ho8' rfl
          rw [hsv'] at ho8' ⊢
          have hE8 : Ext w W8 := ((hE.trans hx1).alloc _).owned hg8 (ho1.alloc _) (Nat.le_refl _)
          clear hsv' ho8 hg8 ho1 hx1
          go_wp2
          exact ⟨⟨j + 1, sv', by omega, by go_num, rfl, by rw [unhide hnx]; exact ho8', hE8⟩, by simp [intOf]; omega⟩
        · rw [preB_end _ hlt2, ← unhide hstep] at ho
          go_wp2
          exact ⟨⟨k + 1, sv, by omega, by go_num, rfl, ho, hE⟩, by simp [intOf]; omega⟩
    · have hk3 : k = bs.length := by omega
      subst hk3
      have hal := unhide hacc bs.length
      have hnum : Hid (accB bs bs.length = bs.flatMap fun p => p.2.map (·.name)) := by unfold Hid accB; rw [List.take_length]
      go_wp2_with fail
      refine (sortCompactS_any w.heap.size sv (accB bs bs.length) w wo ho hE (Nat.le_refl _) (by omega)).mono ?_
      rintro e w1 ⟨rfl, hx1, hcc⟩
      go_wp2_with fail
      refine hcc.mono ?_
      rintro e w2 ⟨sv', rfl, hat, hok, hfs, hx2⟩
      have Hat := hide hat
      clear hat hcc
      go_wp2
      go_ret
      exact ⟨sv', rfl, by rw [← unhide hnum]; exact unhide Hat, hok, hfs, hx2⟩
end Go.Proofs.YtblkgaoafejefaaDoor
