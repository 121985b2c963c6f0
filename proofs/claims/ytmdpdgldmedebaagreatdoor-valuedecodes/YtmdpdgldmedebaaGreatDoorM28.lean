import Derived.Test.YtmdpdgldmedebaaGreatDoorMShelfB
import Derived.Lib.AsciiSet
import Derived.Deep.WholeRow
namespace Go.Proofs.YtmdpdgldmedebaaGreatDoor
set_option linter.unusedSimpArgs false
set_option linter.unusedVariables false
set_option linter.unusedSimpArgs false
set_option linter.unusedVariables false
open Go.RowKit

def Cells5R (w : World) (b o : Nat) (tv : TV) : Prop := w.cell? ⟨b, o, none⟩ = some (.string tv.name) ∧ w.cell? ⟨b, o + 1, none⟩ = some (.bool tv.enum) ∧ w.cell? ⟨b, o + 2, none⟩ = some (.slice tv.fields.a tv.fields.len tv.fields.cap) ∧ w.cell? ⟨b, o + 3, none⟩ = some (.slice tv.gone.a tv.gone.len tv.gone.cap) ∧ w.cell? ⟨b, o + 4, none⟩ = some (.slice tv.items.a tv.items.len tv.items.cap)
set_option maxHeartbeats 3200000 in
theorem sameBookR_true (s s' : SV) (ts : BookM) (w : World) (h : BookAt w s ts) (h' : BookAt w s' ts) (hn : ts.Fits) :
    Calls Tryz.prog 17 #[.agg #[.slice s.a s.len s.cap], .agg #[.slice s'.a s'.len s'.cap]] w fun e w' => e = .returned (.bool true) ∧ Ext w w' := by
  obtain ⟨a, n, cap⟩ := s
  obtain ⟨a', n', cap'⟩ := s'
  obtain ⟨l1, f1⟩ := h
  obtain ⟨l1', f1'⟩ := h'
  simp only at l1 l1'
  subst l1 l1'
  have hlen := hn.1
  have F1 := hide f1
  have F1' := hide f1'
  have Hn := hide hn
  clear f1 f1' hn
  have hx0 : Ext w ((w.alloc (.cells #[.slice a ts.length cap] 24)).alloc (.cells #[.slice a' ts.length cap'] 24)) := ((Ext.refl w).alloc _).alloc _
  go_enter Tryz.func17, Tryz.ntmps17
  go_wp2
  go_loopw [16] (fun i wr => ∃ k : Nat, k ≤ ts.length ∧ i = .int .i64 k ∧ Ext w wr ∧ wr.heap[w.heap.size]? = some (.cells #[.slice a ts.length cap] 24 (0, 0)) ∧ wr.heap[w.heap.size + 1]? = some (.cells #[.slice a' ts.length cap'] 24 (0, 0))) (fun i wr => ts.length - (intOf i).toNat)
  case atStart => exact ⟨0, by omega, rfl, hx0, heap_alloc2_old _ _ _, heap_alloc2_new _ _ _⟩
  case round =>
    obtain ⟨k, hk, rfl, hx, hA, hB⟩ := hrel
    have cA : wr.cell? ⟨w.heap.size, 0, none⟩ = some (.slice a ts.length cap) := cell_of_row _ _ 0 _ _ _ hA
    have cB : wr.cell? ⟨w.heap.size + 1, 0, none⟩ = some (.slice a' ts.length cap') := cell_of_row _ _ 0 _ _ _ hB
    have zB := lt_of_heap hB
    by_cases hlt : k < ts.length
    · obtain ⟨b, o, cs, ha, hr, tv, rfl, htv⟩ := (unhide F1) k ts[k] (by simp [hlt])
      obtain ⟨b', o', cs', ha', hr', tv', rfl, htv'⟩ := (unhide F1') k ts[k] (by simp [hlt])
      subst ha ha'
      have r1 : Cells5R wr b (o + k * 5) tv := range5 (hx.range hr)
      have r2 : Cells5R wr b' (o' + k * 5) tv' := range5 (hx.range hr')
      have hki : (k : Int) < (ts.length : Int) := by omega
      have htvx := htv.ext hx
      have htvx' := htv'.ext hx
      have hsm := (unhide Hn).2 ts[k] (List.getElem_mem hlt)
      have HT := hide (And.intro htvx (And.intro htvx' hsm))
      clear htv htv' htvx htvx' hsm hr hr' F1 F1'
      have hS0 : wr.cell? ⟨w.heap.size, 0, none⟩ = some (.slice (some ⟨b, o, none⟩) ts.length cap) ∧ wr.cell? ⟨w.heap.size + 1, 0, none⟩ = some (.slice (some ⟨b', o', none⟩) ts.length cap') ∧ Cells5R wr b (o + k * 5) tv ∧ Cells5R wr b' (o' + k * 5) tv' := ⟨cA, cB, r1, r2⟩
      go_wp2_with fail
      refine wp_region_X (fun w' => w'.cell? ⟨w.heap.size, 0, none⟩ = some (.slice (some ⟨b, o, none⟩) ts.length cap) ∧ w'.cell? ⟨w.heap.size + 1, 0, none⟩ = some (.slice (some ⟨b', o', none⟩) ts.length cap') ∧ Cells5R w' b (o + k * 5) tv ∧ Cells5R w' b' (o' + k * 5) tv') (fun _ => false) (by kernel_rfl) ?_
      refine wpAnyX_take (i := 0) (v := .pointer (some ⟨w.heap.size, 0, none⟩)) rfl (by kernel_rfl) (by kernel_rfl) (fun _ _ _ h => h) (.inl ⟨rfl, fun w' hS => by simp [execOp, go_sem]⟩) hS0 ?_
      simp only [Act.put, List.setIfInBounds_toArray, List.set_cons_succ, List.set_cons_zero]
      refine wpAnyX_take (i := 1) (v := .slice (some ⟨b, o, none⟩) ts.length cap) rfl (by kernel_rfl) (by kernel_rfl) (fun _ _ _ h => h) (.inl ⟨rfl, fun w' hS => by simp [execOp, go_sem, hS.1]⟩) hS0 ?_
      simp only [Act.put, List.setIfInBounds_toArray, List.set_cons_succ, List.set_cons_zero]
      refine wpAnyX_take (i := 2) (v := .int .i64 k) rfl (by kernel_rfl) (by kernel_rfl) (fun _ _ _ h => h) (.inl ⟨rfl, fun w' hS => by simp [execOp, go_sem]⟩) hS0 ?_
      simp only [Act.put, List.setIfInBounds_toArray, List.set_cons_succ, List.set_cons_zero]
      refine wpAnyX_take (i := 3) (v := .pointer (some ⟨b, o + k * 5, none⟩)) rfl (by kernel_rfl) (by kernel_rfl) (fun _ _ _ h => h) (.inl ⟨rfl, fun w' hS => by simp [execOp, go_sem, hki, hlt]⟩) hS0 ?_
      simp only [Act.put, List.setIfInBounds_toArray, List.set_cons_succ, List.set_cons_zero]
      refine wpAnyX_take (i := 4) (v := .agg #[.string tv.name, .bool tv.enum, .slice tv.fields.a tv.fields.len tv.fields.cap, .slice tv.gone.a tv.gone.len tv.gone.cap, .slice tv.items.a tv.items.len tv.items.cap]) rfl (by kernel_rfl) (by kernel_rfl) (fun _ _ _ h => h) (.inl ⟨rfl, fun w' hS => by simp [execOp, go_sem, hS.2.2.1.1, hS.2.2.1.2.1, hS.2.2.1.2.2.1, hS.2.2.1.2.2.2.1, hS.2.2.1.2.2.2.2]⟩) hS0 ?_
      simp only [Act.put, List.setIfInBounds_toArray, List.set_cons_succ, List.set_cons_zero]
      refine wpAnyX_take (i := 5) (v := .pointer (some ⟨w.heap.size + 1, 0, none⟩)) rfl (by kernel_rfl) (by kernel_rfl) (fun _ _ _ h => h) (.inl ⟨rfl, fun w' hS => by simp [execOp, go_sem]⟩) hS0 ?_
      simp only [Act.put, List.setIfInBounds_toArray, List.set_cons_succ, List.set_cons_zero]
      refine wpAnyX_take (i := 6) (v := .slice (some ⟨b', o', none⟩) ts.length cap') rfl (by kernel_rfl) (by kernel_rfl) (fun _ _ _ h => h) (.inl ⟨rfl, fun w' hS => by simp [execOp, go_sem, hS.2.1]⟩) hS0 ?_
      simp only [Act.put, List.setIfInBounds_toArray, List.set_cons_succ, List.set_cons_zero]
      refine wpAnyX_take (i := 7) (v := .int .i64 k) rfl (by kernel_rfl) (by kernel_rfl) (fun _ _ _ h => h) (.inl ⟨rfl, fun w' hS => by simp [execOp, go_sem]⟩) hS0 ?_
      simp only [Act.put, List.setIfInBounds_toArray, List.set_cons_succ, List.set_cons_zero]
      refine wpAnyX_take (i := 8) (v := .pointer (some ⟨b', o' + k * 5, none⟩)) rfl (by kernel_rfl) (by kernel_rfl) (fun _ _ _ h => h) (.inl ⟨rfl, fun w' hS => by simp [execOp, go_sem, hki, hlt]⟩) hS0 ?_
      simp only [Act.put, List.setIfInBounds_toArray, List.set_cons_succ, List.set_cons_zero]
      refine wpAnyX_take (i := 9) (v := .agg #[.string tv'.name, .bool tv'.enum, .slice tv'.fields.a tv'.fields.len tv'.fields.cap, .slice tv'.gone.a tv'.gone.len tv'.gone.cap, .slice tv'.items.a tv'.items.len tv'.items.cap]) rfl (by kernel_rfl) (by kernel_rfl) (fun _ _ _ h => h) (.inl ⟨rfl, fun w' hS => by simp [execOp, go_sem, hS.2.2.2.1, hS.2.2.2.2.1, hS.2.2.2.2.2.1, hS.2.2.2.2.2.2.1, hS.2.2.2.2.2.2.2]⟩) hS0 ?_
      simp only [Act.put, List.setIfInBounds_toArray, List.set_cons_succ, List.set_cons_zero]
      refine wpAnyX_one (j := 10) rfl (by kernel_rfl) rfl fun K hK => ?_
      go_wp2_with fail
      refine (sameTypeR_true tv tv' _ wr.drew ((unhide HT).1.ext ((Ext.refl wr).drew)) ((unhide HT).2.1.ext ((Ext.refl wr).drew)) (unhide HT).2.2).mono ?_
      rintro e w2 ⟨rfl, hx2⟩
      have hx02 : Ext wr w2 := ((Ext.refl wr).drew).trans hx2
      have hS2 : w2.cell? ⟨w.heap.size, 0, none⟩ = some (.slice (some ⟨b, o, none⟩) ts.length cap) ∧ w2.cell? ⟨w.heap.size + 1, 0, none⟩ = some (.slice (some ⟨b', o', none⟩) ts.length cap') ∧ Cells5R w2 b (o + k * 5) tv ∧ Cells5R w2 b' (o' + k * 5) tv' :=
        ⟨hx02.cell cA, hx02.cell cB, ⟨hx02.cell r1.1, hx02.cell r1.2.1, hx02.cell r1.2.2.1, hx02.cell r1.2.2.2.1, hx02.cell r1.2.2.2.2⟩, ⟨hx02.cell r2.1, hx02.cell r2.2.1, hx02.cell r2.2.2.1, hx02.cell r2.2.2.2.1, hx02.cell r2.2.2.2.2⟩⟩
      go_wp2
      refine hK.out _ _ hS2 ?_
      clear hK K
      refine wpAnyX_one (j := 11) rfl (by kernel_rfl) rfl fun K hK => ?_
      go_wp2
      refine hK.out _ _ hS2 ?_
      clear hK K
      refine wpAnyX_end [] [] rfl (by intro j i hj; simp at hj) (by kernel_rfl) (by intro i hi; simp at hi) fun K hK => ?_
      go_wp2
      refine hK.out _ _ ?_
      clear hK K
      go_wp2
      exact ⟨⟨k + 1, by omega, by go_num, hx.trans hx02, hx02.heap hA, hx02.heap hB⟩, by simp [intOf]; omega⟩
    · go_wp2
      go_ret
      exact ⟨rfl, hx⟩
end Go.Proofs.YtmdpdgldmedebaaGreatDoor

namespace Go.Proofs.YtmdpdgldmedebaaGreatDoor
set_option linter.unusedSimpArgs false
set_option linter.unusedVariables false
open Go.RowKit

theorem blen (a : ByteArray) : a.data.toList.length = a.size := by rw [Array.length_toList]; rfl
theorem bext {a b : ByteArray} (h : a.data.toList = b.data.toList) : a = b := by
  cases a with | mk a => cases b with | mk b => simp only [ByteArray.mk.injEq]; exact Array.toList_inj.1 h
theorem bextract (s : ByteArray) (i j : Nat) : (s.extract i j).data.toList = (s.data.toList.drop i).take (j - i) := by
  rw [ByteArray.data_extract, Array.toList_extract]
/-- A set of bytes in a row of bools. -/
def SetAt (w : World) (g : Nat) (p : UInt8 → Bool) : Prop := ∀ c : UInt8, w.cell? ⟨g, c.toNat, none⟩ = some (.bool (p c))

theorem snoc_bytes (t : ByteArray) (h : 0 < t.size) : t.data.toList = (t.extract 0 (t.size - 1)).data.toList ++ [t[t.size - 1]'(by omega)] := by
  rw [bextract, List.drop_zero, Nat.sub_zero]
  have hl := blen t
  have e := List.take_succ_eq_append_getElem (l := t.data.toList) (i := t.size - 1) (by omega)
  rw [show t.size - 1 + 1 = t.data.toList.length by omega, List.take_length] at e
  exact e
theorem cons_bytes (t : ByteArray) (h : 0 < t.size) : t.data.toList = t[0] :: (t.extract 1 t.size).data.toList := by
  rw [bextract, List.take_of_length_le (by rw [List.length_drop, blen]; omega)]
  have e := List.drop_eq_getElem_cons (l := t.data.toList) (i := 0) (by rw [blen]; exact h)
  rw [List.drop_zero] at e
  exact e

/-- What is behind is of the set; what is ahead is. -/
def EndsIn (p : UInt8 → Bool) (l m : List UInt8) : Prop := ∃ r, l = m ++ r ∧ r.all p = true
def BeginsIn (p : UInt8 → Bool) (l m : List UInt8) : Prop := ∃ r, l = r ++ m ∧ r.all p = true
theorem EndsIn.snoc {p : UInt8 → Bool} {l m : List UInt8} {c : UInt8} (h : EndsIn p l (m ++ [c])) (hc : p c = true) : EndsIn p l m := by
  obtain ⟨r, h1, h2⟩ := h
  exact ⟨c :: r, by rw [h1]; simp, by simp [hc, h2]⟩
theorem BeginsIn.cons {p : UInt8 → Bool} {l m : List UInt8} {c : UInt8} (h : BeginsIn p l (c :: m)) (hc : p c = true) : BeginsIn p l m := by
  obtain ⟨r, h1, h2⟩ := h
  exact ⟨r ++ [c], by rw [h1]; simp, by simp [hc, h2]⟩
theorem ret_string {a b : ByteArray} (h : a = b) : Ending.returned (.string a) = .returned (.string b) := by rw [h]

set_option maxHeartbeats 1600000 in
theorem trimRight_any (s : ByteArray) (g : Nat) (p : UInt8 → Bool) (w : World) (hs : s.size ≤ 9223372036854775807) (hp : SetAt w g p) :
    Calls Tryz.prog 95 #[.string s, .pointer (some ⟨g, 0, none⟩)] w fun e w' => ∃ t : ByteArray, e = .returned (.string t) ∧ EndsIn p s.data.toList t.data.toList ∧ t.size ≤ 9223372036854775807 ∧ w' = w := by
  have Hp := hide hp
  clear hp
  go_enter Tryz.func95, Tryz.ntmps95
  go_wp2
  go_loop [0] (fun x => ∃ t : ByteArray, x = .string t ∧ EndsIn p s.data.toList t.data.toList ∧ t.size ≤ 9223372036854775807) (fun x => strLen x)
  case atStart => exact ⟨s, rfl, ⟨[], by simp, rfl⟩, hs⟩
  case round =>
    obtain ⟨t, rfl, he, hts⟩ := hrel
    by_cases h0 : 0 < t.size
    · have hsz : (t.extract 0 (t.size - 1)).size = t.size - 1 := by
        rw [← blen, bextract, List.length_take, List.length_drop, blen]; omega
      have Hsn := hide (snoc_bytes t h0)
      have hc := unhide Hp (t[t.size - 1]'(by omega))
      cases hpc : p (t[t.size - 1]'(by omega))
      · rw [hpc] at hc
        go_wp2_with fail
        refine (Tryz.asciiSet_contains g _ _ w hc).mono ?_
        rintro e w1 ⟨rfl, rfl⟩
        go_wp2
        go_ret
        exact ⟨t, rfl, he, hts, rfl⟩
      · rw [hpc] at hc
        have he2 : EndsIn p s.data.toList (t.extract 0 (t.size - 1)).data.toList := by
          rw [unhide Hsn] at he
          exact he.snoc hpc
        clear he
        go_wp2_with fail
        refine (Tryz.asciiSet_contains g _ _ w hc).mono ?_
        rintro e w1 ⟨rfl, rfl⟩
        go_wp2
        go_round
        case rel => exact ⟨_, rfl, he2, by omega⟩
        case measure => simp [strLen]; omega
    · go_wp2
      go_ret
      exact ⟨t, rfl, he, hts, rfl⟩

set_option maxHeartbeats 1600000 in
theorem trimLeft_any (s : ByteArray) (g : Nat) (p : UInt8 → Bool) (w : World) (hs : s.size ≤ 9223372036854775807) (hp : SetAt w g p) :
    Calls Tryz.prog 94 #[.string s, .pointer (some ⟨g, 0, none⟩)] w fun e w' => ∃ t : ByteArray, e = .returned (.string t) ∧ BeginsIn p s.data.toList t.data.toList ∧ (∀ c l, t.data.toList = c :: l → p c = false) ∧ w' = w := by
  have Hp := hide hp
  clear hp
  go_enter Tryz.func94, Tryz.ntmps94
  go_wp2
  go_loop [0] (fun x => ∃ t : ByteArray, x = .string t ∧ BeginsIn p s.data.toList t.data.toList ∧ t.size ≤ 9223372036854775807) (fun x => strLen x)
  case atStart => exact ⟨s, rfl, ⟨[], by simp, rfl⟩, hs⟩
  case round =>
    obtain ⟨t, rfl, he, hts⟩ := hrel
    by_cases h0 : 0 < t.size
    · have hsz : (t.extract 1 t.size).size = t.size - 1 := by
        rw [← blen, bextract, List.length_take, List.length_drop, blen]; omega
      have Hsn := hide (cons_bytes t h0)
      have hc := unhide Hp t[0]
      cases hpc : p t[0]
      · rw [hpc] at hc
        have Hend : Hid (∀ c l, t.data.toList = c :: l → p c = false) := by
          intro c l h
          rw [unhide Hsn] at h
          simp only [List.cons.injEq] at h
          rw [← h.1]; exact hpc
        go_wp2_with fail
        refine (Tryz.asciiSet_contains g _ _ w hc).mono ?_
        rintro e w1 ⟨rfl, rfl⟩
        go_wp2
        go_ret
        exact ⟨t, rfl, he, unhide Hend, rfl⟩
      · rw [hpc] at hc
        have he2 : BeginsIn p s.data.toList (t.extract 1 t.size).data.toList := by
          rw [unhide Hsn] at he
          exact he.cons hpc
        clear he
        go_wp2_with fail
        refine (Tryz.asciiSet_contains g _ _ w hc).mono ?_
        rintro e w1 ⟨rfl, rfl⟩
        go_wp2
        go_round
        case rel => exact ⟨_, rfl, he2, by omega⟩
        case measure => simp [strLen]; omega
    · have Hend : Hid (∀ c l, t.data.toList = c :: l → p c = false) := by
        intro c l h
        have := congrArg List.length h
        rw [blen] at this
        simp at this
        omega
      go_wp2
      go_ret
      exact ⟨t, rfl, he, unhide Hend, rfl⟩
end Go.Proofs.YtmdpdgldmedebaaGreatDoor

namespace Go.Proofs.YtmdpdgldmedebaaGreatDoor
set_option linter.unusedSimpArgs false
set_option linter.unusedVariables false
open Go.RowKit

def lettersL : List UInt8 := [97, 98, 99, 100, 101, 102, 103, 104, 105, 106, 107, 108, 109, 110, 111, 112, 113, 114, 115, 116, 117, 118, 119, 120, 121, 122]
theorem info87 : (Tryz.prog.info? 119).map (fun i => (i.zero, i.size)) = some (some (.agg (Array.replicate 256 (.bool false))), 256) := by kernel_rfl
theorem row_letters : Lib.setCells lettersL = ((List.range 256).map fun c => Value.bool (decide (97 ≤ c) && decide (c ≤ 122))).toArray := by kernel_rfl
theorem cells_letters (c : Nat) (h : c < 256) : (Lib.setCells lettersL)[c]? = some (.bool (decide (97 ≤ c) && decide (c ≤ 122))) := by
  rw [row_letters]
  simp [h]
theorem size_letters : (Lib.setCells lettersL).size = 256 := by rw [row_letters]; simp
theorem one_letters : (Lib.setCells lettersL).all (·.oneCell') = true := by kernel_rfl
theorem letterB_nat (c : UInt8) : letterB c = (decide (97 ≤ c.toNat) && decide (c.toNat ≤ 122)) := by
  unfold letterB
  rw [Bool.eq_iff_iff]
  simp only [Bool.and_eq_true, decide_eq_true_eq]
  omega
theorem set_letters (w : World) : SetAt (w.alloc (.cells (Lib.setCells lettersL) 119)) w.heap.size letterB := fun c => by
  rw [cell_of_row _ _ _ _ _ _ (heap_alloc_new w _), letterB_nat]
  exact cells_letters c.toNat c.toNat_lt
theorem trim_all {p : UInt8 → Bool} {l m k : List UInt8} (h1 : EndsIn p l m) (h2 : BeginsIn p m k) (h3 : ∀ c t, k = c :: t → p c = false) : k.isEmpty = l.all p := by
  obtain ⟨r1, rfl, a1⟩ := h1
  obtain ⟨r2, rfl, a2⟩ := h2
  cases k with
  | nil => simp [a1, a2]
  | cons c t => simp [h3 c t rfl]

set_option maxHeartbeats 1600000 in
set_option maxRecDepth 4000 in
theorem trim_any (s : ByteArray) (w : World) (hs : s.size ≤ 9223372036854775807) (h0 : s.toList.isEmpty = false) :
    Calls Tryz.prog 72 #[.string s, .string ⟨#[97, 98, 99, 100, 101, 102, 103, 104, 105, 106, 107, 108, 109, 110, 111, 112, 113, 114, 115, 116, 117, 118, 119, 120, 121, 122]⟩] w fun e w' => ∃ t : ByteArray, e = .returned (.string t) ∧ t.toList.isEmpty = s.toList.all letterB ∧ Ext w w' := by
  obtain ⟨hzero, hsize⟩ := zero_of_info info87
  have Hmk := hide (Tryz.strings_makeASCIISet hzero ⟨#[97, 98, 99, 100, 101, 102, 103, 104, 105, 106, 107, 108, 109, 110, 111, 112, 113, 114, 115, 116, 117, 118, 119, 120, 121, 122]⟩ w (by decide) (by
    intro j b hb
    have hm := List.mem_of_getElem? hb
    revert hm
    have : ∀ b ∈ lettersL, b.toNat < 128 := by decide
    exact this b))
  obtain ⟨cut, hcut⟩ : ∃ cut : ByteArray, (⟨#[97, 98, 99, 100, 101, 102, 103, 104, 105, 106, 107, 108, 109, 110, 111, 112, 113, 114, 115, 116, 117, 118, 119, 120, 121, 122]⟩ : ByteArray) = cut := ⟨_, rfl⟩
  have hcs : (cut.size : Int) = 26 := by rw [← hcut]; rfl
  have hce : cut.toList.isEmpty = false := by rw [← hcut, bytes_toList]; rfl
  have hset : Lib.setCells cut.data.toList = Lib.setCells lettersL := by rw [← hcut]; rfl
  rw [hcut] at Hmk ⊢
  rw [hset] at Hmk
  clear hcut hset
  have hst0 := fun u : World => run_storeCells_new (P := Tryz.prog) u 119 (Array.replicate 256 (.bool false)) (Lib.setCells lettersL) (by rw [hsize, size_letters]) (by rw [size_letters]; simp) one_letters
  have HS := fun u : World => hide (set_letters u)
  have hscz := size_letters
  obtain ⟨SC, hSC⟩ : ∃ SC, Lib.setCells lettersL = SC := ⟨_, rfl⟩
  rw [hSC] at Hmk HS hscz
  rw [hSC] at hst0
  clear hSC hsize
  obtain ⟨Z, hZ⟩ : ∃ Z : Array Value, Array.replicate 256 (Value.bool false) = Z := ⟨_, rfl⟩
  rw [hZ] at hzero hst0
  clear hZ
  have hst : (storeCells ⟨w.heap.size + 1, 0, none⟩ SC.toList 0).run Tryz.prog ((w.alloc (.cells SC 119)).alloc (.cells Z 119)) = .ok () ((w.alloc (.cells SC 119)).alloc (.cells SC 119)) := by
    have := hst0 (w.alloc (.cells SC 119))
    simpa using this
  clear hst0
  go_enter Tryz.func72, Tryz.ntmps72
  go_wp2_with fail
  refine (unhide Hmk).mono ?_
  rintro e w1 ⟨rfl, rfl⟩
  have hset : SetAt ((w.alloc (.cells SC 119)).alloc (.cells SC 119)) (w.heap.size + 1) letterB := by
    have := unhide (HS (w.alloc (.cells SC 119)))
    simpa using this
  have hx2 : Ext w ((w.alloc (.cells SC 119)).alloc (.cells SC 119)) := ((Ext.refl w).alloc _).alloc _
  have Hset := hide hset
  clear hset HS Hmk
  go_wp2_with fail
  refine (trimRight_any s (w.heap.size + 1) letterB _ hs (unhide Hset)).mono ?_
  rintro e w2 ⟨t1, rfl, he1, hz1, rfl⟩
  have He1 := hide he1
  clear he1
  go_wp2_with fail
  refine (trimLeft_any t1 (w.heap.size + 1) letterB _ hz1 (unhide Hset)).mono ?_
  rintro e w2 ⟨t2, rfl, he2, hn2, rfl⟩
  have HT := hide (trim_all (unhide He1) he2 hn2)
  clear he2 hn2
  go_wp2
  go_ret
  exact ⟨t2, rfl, by rw [bytes_toList, bytes_toList]; exact unhide HT, hx2⟩
end Go.Proofs.YtmdpdgldmedebaaGreatDoor

