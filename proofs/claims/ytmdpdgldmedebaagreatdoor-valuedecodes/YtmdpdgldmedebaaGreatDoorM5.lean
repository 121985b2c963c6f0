import Derived.Test.YtmdpdgldmedebaaGreatDoorM4
import Derived.Deep.QuietTactic
import Derived.BigQuiet
import Derived.Laws.Cover1
import Derived.Lib.SliceRun
namespace Go.Proofs.YtmdpdgldmedebaaGreatDoor
set_option linter.unusedSimpArgs false
set_option linter.unusedVariables false
set_option linter.unusedSimpArgs false
set_option linter.unusedVariables false
open Go.RowKit

theorem hide {p : Prop} (h : p) : Hid p := h
theorem unhide {p : Prop} (h : Hid p) : p := h
theorem leastFold_drop {g : FieldM → Int} {l : List FieldM} {k : Nat} {acc : Int} (hk : k < l.length) :
    leastFold g (l.drop k) acc = if (l[k].rule == 1) = false then leastFold g (l.drop (k + 1)) acc else if g l[k] = 0 then 0 else leastFold g (l.drop (k + 1)) (acc + g l[k]) := by
  rw [List.drop_eq_getElem_cons hk]; rfl

set_option maxHeartbeats 3200000 in
theorem leastWithin_any (s : SV) (ts : BookM) (hn : ts.Fits) (n : Nat) : n ≤ 4 → ∀ (m : Int), m = n → ∀ (name : ByteArray) (w : World), BookAt w s ts →
    Calls Tryz.prog 90 #[.agg #[.slice s.a s.len s.cap], .string name, .int .i64 m] w fun e w' => e = .returned (.int .i64 (leastM ts n name)) ∧ Ext w w' := by
  induction n with
  | zero =>
    intro _ m hm name w hs
    have hm0 : m < 1 := by omega
    clear hm
    go_enter Tryz.func90, Tryz.ntmps90
    go_wp2
    go_ret
    exact ⟨rfl, (Ext.refl w).alloc _⟩
  | succ n ih =>
    intro hn4 m hm name w hs
    have IH : Hid (∀ (m : Int), m = n → ∀ (name : ByteArray) (w : World), BookAt w s ts →
      Calls Tryz.prog 90 #[.agg #[.slice s.a s.len s.cap], .string name, .int .i64 m] w fun e w' => e = .returned (.int .i64 (leastM ts n name)) ∧ Ext w w') := ih (by omega)
    clear ih
    have Hm : Hid (m - 1 = n) := by unfold Hid; omega
    have hm1 : 1 ≤ m := by omega
    have hm4 : m ≤ 4 := by omega
    have hlen := hn.1
    have hx0 : Ext w (w.alloc (.cells #[.slice s.a s.len s.cap] 24)) := (Ext.refl w).alloc _
    clear hm
    go_enter Tryz.func90, Tryz.ntmps90
    go_wp2_with fail
    refine (lookUp_any s ts name _ (hs.ext hx0) (by omega)).mono ?_
    rintro e w1 ⟨tv, rfl, htv, hx1⟩
    have q0 := (hx1.whole (heap_alloc_new _ _)).1 0 (.slice s.a s.len s.cap) rfl
    have hz0 : w.heap.size < w1.heap.size := by have := hx1.size; simp at this; omega
    have hE1 : Ext w w1 := hx0.trans hx1
    cases hf : findM ts name with
    | none =>
      have E : Hid (leastM ts (n + 1) name = 0) := by simp [Hid, leastM, hf]
      clear htv
      simp only [Option.isSome_none]
      go_wp2
      go_ret
      exact ⟨ret_int E.out.symm, hE1.alloc _⟩
    | some t =>
      rw [hf] at htv
      simp only [Option.getD_some] at htv
      simp only [Option.isSome_some]
      have hT := hn.2 t (findM_mem hf)
      have hT1 := hT.fields
      obtain ⟨nm, en, ⟨fa, fl, fc⟩, gs, is⟩ := tv
      have een := htv.enum
      have hfa := htv.fields
      have efl := htv.fields.1
      simp only at een hfa efl
      subst efl
      cases en
      · have een' : t.enum = false := een.symm
        clear een
        by_cases h5 : 5 < t.fields.length
        · have E : Hid (leastM ts (n + 1) name = 0) := by simp [Hid, leastM, hf, h5]
          clear htv hfa een' hf hT
          go_wp2
          go_ret
          exact ⟨ret_int E.out.symm, hE1.alloc _⟩
        have E : Hid (leastM ts (n + 1) name = leastFold (needM ts n) t.fields 1) := by
          unfold Hid leastM
          rw [hf]
          simp only [een']
          rw [if_neg (by simp; omega)]
          rfl
        clear htv een' hf hT
        go_wp2
        go_loopw [9, 36] (fun sm i wr => ∃ (k : Nat) (acc : Int), k ≤ t.fields.length ∧ i = .int .i64 k ∧ sm = .int .i64 acc ∧ 0 ≤ acc ∧ acc ≤ 1 + k * 1296 ∧ leastFold (needM ts n) t.fields 1 = leastFold (needM ts n) (t.fields.drop k) acc ∧ Ext w1 wr) (fun sm i wr => t.fields.length - (intOf i).toNat)
        case atStart => exact ⟨0, 1, by omega, rfl, rfl, by omega, by omega, rfl, (Ext.refl _).alloc _⟩
        case round =>
          obtain ⟨k, acc, hk, rfl, rfl, ha0, ha1, hfold, hx⟩ := hrel
          have Hfold : Hid (leastFold (needM ts n) t.fields 1 = leastFold (needM ts n) (t.fields.drop k) acc) := hfold
          clear hfold
          have hE : Ext w wr := hE1.trans hx
          have q0' := hx.cell q0
          have hz : w.heap.size < wr.heap.size := by have := hx.size; omega
          by_cases hlt : k < t.fields.length
          · obtain ⟨b, o, cs, efa, hr, rfl⟩ := hfa.2 k t.fields[k] (by simp [hlt])
            simp only at efa
            subst efa
            obtain ⟨c0, c1, c2, c3, c4⟩ := range5 (hx.range (hx1.range hr))
            have Hd := hide (leastFold_drop (g := needM ts n) (acc := acc) hlt)
            clear hfa hr
            cases hrule : (t.fields[k].rule == 1)
            · have hrule' : (t.fields[k].rule != 1) = true := by simp [bne, hrule]
              have Hr : Hid ((t.fields[k].rule == 1) = false) := hrule
              clear hrule
              go_wp2
              exact ⟨⟨k + 1, acc, by omega, by go_num, rfl, ha0, by omega, by rw [Hfold.out, unhide Hd, if_pos Hr.out], hx.alloc _⟩, by simp [intOf]; omega⟩
            have hrule' : (t.fields[k].rule != 1) = false := by simp [bne, hrule]
            have Hr : Hid ((t.fields[k].rule == 1) = true) := hrule
            clear hrule
            have hbd := needM_bd ts n (by omega) t.fields[k]
            cases hkind : (t.fields[k].kind == 5)
            · have Hnd : Hid (needM ts n t.fields[k] = 1) := by
                unfold Hid needM; rw [if_neg (by simpa using hkind)]
              clear hbd
              go_wp2
              exact ⟨⟨k + 1, acc + 1, by omega, by go_num, rfl, by omega, by omega, by rw [Hfold.out, unhide Hd, if_neg (by rw [Hr.out]; simp), Hnd.out, if_neg (by omega)], hx.alloc _⟩, by simp [intOf]; omega⟩
            · have Hnd : Hid (needM ts n t.fields[k] = leastM ts n t.fields[k].type) := by
                unfold Hid needM; rw [if_pos (by simpa using hkind)]
              rw [Hnd.out] at hbd
              have hsr := hs.ext (hE.alloc (.cells #[.int .i64 t.fields[k].id, .string t.fields[k].name, .string t.fields[k].type, .int .i64 t.fields[k].kind, .int .i64 t.fields[k].rule] 56))
              go_wp2_with fail
              refine (IH.out (m - 1) Hm.out t.fields[k].type _ hsr).mono ?_
              rintro e w2 ⟨rfl, hx2⟩
              have hEw : Ext w1 w2 := (hx.alloc _).trans hx2
              cases hv : (leastM ts n t.fields[k].type == 0)
              · have Hv : Hid ((leastM ts n t.fields[k].type == 0) = false) := hv
                go_wp2
                exact ⟨⟨k + 1, acc + leastM ts n t.fields[k].type, by omega, by go_num, rfl, by omega, by omega, by rw [Hfold.out, unhide Hd, if_neg (by rw [Hr.out]; simp), Hnd.out, if_neg (by simpa using Hv.out)], hEw⟩, by simp [intOf]; omega⟩
              · have Hv : Hid ((leastM ts n t.fields[k].type == 0) = true) := hv
                go_wp2
                go_ret
                refine ⟨ret_int ?_, hE1.trans hEw⟩
                rw [E.out, Hfold.out, unhide Hd, if_neg (by rw [Hr.out]; simp), Hnd.out, if_pos (by simpa using Hv.out)]
          · go_wp2
            go_ret
            refine ⟨ret_int ?_, hE⟩
            rw [E.out, Hfold.out, List.drop_of_length_le (by omega)]
            rfl
      · have E : Hid (leastM ts (n + 1) name = 0) := by simp [Hid, leastM, hf, ← een]
        clear htv hfa een hf hT
        go_wp2
        go_ret
        exact ⟨ret_int E.out.symm, hE1.alloc _⟩
end Go.Proofs.YtmdpdgldmedebaaGreatDoor

namespace Go.Proofs.YtmdpdgldmedebaaGreatDoor
set_option linter.unusedSimpArgs false
set_option linter.unusedVariables false
open Go.RowKit

set_option maxHeartbeats 400000 in
theorem least_any (s : SV) (ts : BookM) (hn : ts.Fits) (name : ByteArray) (w : World) (hs : BookAt w s ts) :
    Calls Tryz.prog 67 #[.agg #[.slice s.a s.len s.cap], .string name] w fun e w' => e = .returned (.int .i64 (leastM ts 4 name)) ∧ Ext w w' := by
  have hx0 : Ext w (w.alloc (.cells #[.slice s.a s.len s.cap] 24)) := (Ext.refl w).alloc _
  go_enter Tryz.func67, Tryz.ntmps67
  go_wp2_with fail
  refine (leastWithin_any s ts hn 4 (by omega) 4 rfl name _ (hs.ext hx0)).mono ?_
  rintro e w1 ⟨rfl, hx1⟩
  go_wp2
  go_ret
  exact ⟨rfl, hx0.trans hx1⟩

def typeOkAt (b : BookM) (i : Nat) : Bool := (i == 0 || Op.bytesLess (b.getD (i - 1) TypeM.zero).name.toList (b.getD i TypeM.zero).name.toList) && goodTypeM b (b.getD i TypeM.zero)
def leastOkAt (b : BookM) (i : Nat) : Bool := (b.getD i TypeM.zero).enum || goodLeastB (leastM b 4 (b.getD i TypeM.zero).name)
def goodM (b : BookM) : Int :=
  if 4 < b.length then 7
  else if (List.range b.length).all (typeOkAt b) then (if (List.range b.length).all (leastOkAt b) then 0 else 7) else 1

theorem Ext.drewN {a w : World} (h : Ext a w) (n : Nat) : Ext a (w.drewN n) := h.trans ⟨rfl, rfl, rfl, Nat.le_refl _, fun _ _ => rfl⟩
theorem goodM_bad {ts : BookM} {k : Nat} (h4 : ¬ 4 < ts.length) (hk : k < ts.length) (h : typeOkAt ts k = false) : goodM ts = 1 := by
  unfold goodM
  rw [if_neg h4, not_all_range hk h]; rfl

set_option maxHeartbeats 1600000 in
theorem good_any (s : SV) (ts : BookM) (hn : ts.Fits) (w : World) (hs : BookAt w s ts) (hw : WordsAt w) :
    Calls Tryz.prog 42 #[.agg #[.slice s.a s.len s.cap]] w fun e w' => e = .returned (.int .i64 (goodM ts)) ∧ Ext w w' := by
  have hlen := hn.1
  obtain ⟨a, n, cap⟩ := s
  have hl := hs.1
  simp only at hl
  subst hl
  have Hs : Hid (BookAt w ⟨a, ts.length, cap⟩ ts) := hs
  clear hs
  show Calls Tryz.prog 42 #[.agg #[.slice a ts.length cap]] w _
  by_cases h4 : 4 < ts.length
  · have E : Hid (goodM ts = 7) := by unfold Hid goodM; rw [if_pos h4]
    go_enter Tryz.func42, Tryz.ntmps42
    go_wp2
    go_ret
    exact ⟨ret_int E.out.symm, (Ext.refl w).alloc _⟩
  go_enter Tryz.func42, Tryz.ntmps42
  go_wp2
  go_loopw [14] (fun i wr => ∃ (k : Nat), k ≤ ts.length ∧ i = .int .i64 k ∧ AllTo (typeOkAt ts) k ∧ Ext (w.alloc (.cells #[.slice a ts.length cap] 24)) wr) (fun i wr => ts.length - (intOf i).toNat)
  case atStart => exact ⟨0, by omega, rfl, AllTo.zero _, Ext.refl _⟩
  case round =>
    obtain ⟨k, hk, rfl, hne, hx⟩ := hrel
    have hE : Ext w wr := ((Ext.refl w).alloc _).trans hx
    have q0 := (hx.whole (heap_alloc_new _ _)).1 0 (.slice a ts.length cap) rfl
    have hz : w.heap.size < wr.heap.size := by have := hx.size; simp at this; omega
    by_cases hlt : k < ts.length
    · obtain ⟨b, o, cs, ea, hr, tv, rfl, htv⟩ := Hs.out.2 k ts[k] (by simp [hlt])
      simp only at ea
      subst ea
      obtain ⟨c0, c1, c2, c3, c4⟩ := range5 (hE.range hr)
      have Htv : Hid (TypeAt w tv ts[k]) := htv
      clear htv hr
      have Hsm : Hid (ts[k].Fits) := hn.2 ts[k] (List.getElem_mem hlt)
      have Hkk : Hid (ts.getD k TypeM.zero = ts[k]) := by simp [Hid, List.getD, hlt]
      by_cases hk0 : k < 1
      · have hd : decide (0 < k) = false := by simp; omega
        have Hok : Hid (typeOkAt ts k = goodTypeM ts ts[k]) := by
          unfold Hid typeOkAt; rw [Hkk.out, show (k == 0) = true by simp; omega]; rfl
        go_wp2
        go_quiet (fail)
        go_wp2_with fail
        refine (goodType_any ⟨some ⟨b, o, none⟩, ts.length, cap⟩ ts tv ts[k] _ ?_ ?_ ?_ hlen Hsm.out).mono ?_
        · exact Hs.out.ext ((hE.alloc _).drewN _)
        · exact Htv.out.ext ((hE.alloc _).drewN _)
        · exact hw.ext ((hE.alloc _).drewN _)
        rintro e w1 ⟨rfl, hx1⟩
        have hx1' := ((hx.alloc _).drewN _).trans hx1
        have hE1 := ((hE.alloc _).drewN _).trans hx1
        clear hx1
        cases hg : goodTypeM ts ts[k]
        · have Hg := hide hg
          go_wp2
          go_ret
          exact ⟨ret_int (goodM_bad h4 hlt (Hok.out.trans Hg.out)).symm, hE1⟩
        · have Hg := hide hg
          go_wp2
          exact ⟨⟨k + 1, by omega, by go_num, hne.succ (Hok.out.trans Hg.out), hx1'⟩, by simp [intOf]; omega⟩
      · obtain ⟨b2, o2, cs2, ea2, hr2, tv2, rfl, htv2⟩ := Hs.out.2 (k - 1) ts[k - 1] (by simp [show k - 1 < ts.length by omega])
        simp only [Option.some.injEq, Addr.mk.injEq] at ea2
        obtain ⟨rfl, rfl, _⟩ := ea2
        obtain ⟨d0, _, _, _, _⟩ := range5 (hE.range hr2)
        have Hok : Hid (typeOkAt ts k = (Op.bytesLess tv2.name.toList tv.name.toList && goodTypeM ts ts[k])) := by
          unfold Hid typeOkAt
          rw [Hkk.out, show (k == 0) = false by simp; omega, show ts.getD (k - 1) TypeM.zero = ts[k - 1] by simp [List.getD, show k - 1 < ts.length by omega], htv2.name, Htv.out.name]
          rfl
        clear htv2 hr2
        have hd : decide (0 < k) = true := by simp; omega
        have hlt1 : k - 1 < ts.length := by omega
        have hbz : b < wr.heap.size := World.block_lt_of_cell? wr _ d0
        have hwr : IntKind.i64.wrap ((k : Int) - 1) = ((k - 1 : Nat) : Int) := by
          rw [IntKind.wrap_i64]; omega
        cases hbl : Op.bytesLess tv2.name.toList tv.name.toList
        · have Hbl := hide hbl
          go_wp2
          go_quiet (fail)
          go_wp2
          go_ret
          exact ⟨ret_int (goodM_bad h4 hlt (Hok.out.trans (by rw [Hbl.out]; rfl))).symm, (hE.alloc _).drewN _⟩
        · have Hbl := hide hbl
          go_wp2
          go_quiet (fail)
          go_wp2_with fail
          refine (goodType_any ⟨some ⟨b, o, none⟩, ts.length, cap⟩ ts tv ts[k] _ ?_ ?_ ?_ hlen Hsm.out).mono ?_
          · exact Hs.out.ext ((hE.alloc _).drewN _)
          · exact Htv.out.ext ((hE.alloc _).drewN _)
          · exact hw.ext ((hE.alloc _).drewN _)
          rintro e w1 ⟨rfl, hx1⟩
          have hx1' := ((hx.alloc _).drewN _).trans hx1
          have hE1 := ((hE.alloc _).drewN _).trans hx1
          clear hx1
          cases hg : goodTypeM ts ts[k]
          · have Hg := hide hg
            go_wp2
            go_ret
            exact ⟨ret_int (goodM_bad h4 hlt (Hok.out.trans (by rw [Hbl.out, Hg.out]; rfl))).symm, hE1⟩
          · have Hg := hide hg
            go_wp2
            exact ⟨⟨k + 1, by omega, by go_num, hne.succ (Hok.out.trans (by rw [Hbl.out, Hg.out]; rfl)), hx1'⟩, by simp [intOf]; omega⟩
    · have E : Hid (goodM ts = if (List.range ts.length).all (leastOkAt ts) then 0 else 7) := by
        unfold Hid goodM
        rw [if_neg h4, if_pos (AllTo.all hne (by omega))]
      clear hne
      go_wp2
      go_loopw [41] (fun i wr2 => ∃ (k : Nat), k ≤ ts.length ∧ i = .int .i64 k ∧ AllTo (leastOkAt ts) k ∧ Ext (w.alloc (.cells #[.slice a ts.length cap] 24)) wr2) (fun i wr => ts.length - (intOf i).toNat)
      case atStart => exact ⟨0, by omega, rfl, AllTo.zero _, hx⟩
      case round =>
        clear hE q0 hz hx
        obtain ⟨j, hj, rfl, hne, hx⟩ := hrel
        have hE : Ext w wr := ((Ext.refl w).alloc _).trans hx
        have q0 := (hx.whole (heap_alloc_new _ _)).1 0 (.slice a ts.length cap) rfl
        have hz : w.heap.size < wr.heap.size := by have := hx.size; simp at this; omega
        by_cases hlt2 : j < ts.length
        · obtain ⟨b, o, cs, ea, hr, tv, rfl, htv⟩ := Hs.out.2 j ts[j] (by simp [hlt2])
          simp only at ea
          subst ea
          obtain ⟨c0, c1, c2, c3, c4⟩ := range5 (hE.range hr)
          have Hok : Hid (leastOkAt ts j = (tv.enum || goodLeastB (leastM ts 4 tv.name))) := by
            unfold Hid leastOkAt
            rw [show ts.getD j TypeM.zero = ts[j] by simp [List.getD, hlt2], htv.enum, htv.name]
          clear htv hr
          obtain ⟨nm, en, fs, gs, is⟩ := tv
          simp only at c0 c1 c2 c3 c4 Hok
          cases en
          · go_wp2_with fail
            refine (least_any ⟨some ⟨b, o, none⟩, ts.length, cap⟩ ts hn nm _ ?_).mono ?_
            · exact Hs.out.ext (hE.alloc _)
            rintro e w1 ⟨rfl, hx1⟩
            have hx1' := (hx.alloc _).trans hx1
            have hE1 := (hE.alloc _).trans hx1
            clear hx1
            go_wp2_with fail
            refine (goodLeast_any _ _).mono ?_
            rintro e w2 ⟨rfl, rfl⟩
            cases hg : goodLeastB (leastM ts 4 nm)
            · have Hg := hide hg
              go_wp2
              go_ret
              refine ⟨ret_int ?_, hE1⟩
              rw [E.out, not_all_range hlt2 (Hok.out.trans (by rw [Hg.out]; rfl))]
              rfl
            · have Hg := hide hg
              go_wp2
              exact ⟨⟨j + 1, by omega, by go_num, hne.succ (Hok.out.trans (by rw [Hg.out]; rfl)), hx1'⟩, by simp [intOf]; omega⟩
          · go_wp2
            exact ⟨⟨j + 1, by omega, by go_num, hne.succ (Hok.out.trans rfl), hx.alloc _⟩, by simp [intOf]; omega⟩
        · go_wp2
          go_ret
          refine ⟨ret_int ?_, hE⟩
          rw [E.out, AllTo.all hne (by omega)]
          rfl
end Go.Proofs.YtmdpdgldmedebaaGreatDoor

namespace Go.Proofs.YtmdpdgldmedebaaGreatDoor
set_option linter.unusedSimpArgs false
set_option linter.unusedVariables false
open Go.RowKit

theorem info46 : (Tryz.prog.info? 56).map (fun i => (i.zero, i.size, i.bytes)) = some (some (.agg #[.int .i64 0, .string ⟨#[]⟩, .string ⟨#[]⟩, .int .i64 0, .int .i64 0]), 5, 56) := by kernel_rfl
theorem info91 : (Tryz.prog.info? 71).map (fun i => (i.zero, i.size, i.bytes)) = some (some (.agg #[.string ⟨#[]⟩, .int .i64 0]), 2, 24) := by kernel_rfl
theorem one_field (f : FieldM) : ∀ u ∈ f.cells, u.oneCell' = true := by intro u hu; simp at hu; rcases hu with rfl | rfl | rfl | rfl | rfl <;> rfl
theorem one_item (f : ItemM) : ∀ u ∈ f.cells, u.oneCell' = true := by intro u hu; simp at hu; rcases hu with rfl | rfl <;> rfl
theorem one_int (n : Int) : ∀ u ∈ [Value.int .i64 n], u.oneCell' = true := by intro u hu; simp at hu; subst hu; rfl
theorem owns_new0 (w : World) (e : TypeId) (k : Nat) : (w.alloc (.cells #[] e)).ownsRow w.heap.size e k (.slice (some ⟨w.heap.size, 0, none⟩) 0 0) 0 [] :=
  ⟨by simp, .inr ⟨w.heap.size, 0, #[], rfl, Nat.le_refl _, heap_alloc_new w _, Nat.le_refl _, by simp, by simp, by simp⟩⟩

set_option maxHeartbeats 400000 in
theorem cloneFields_any (s : SV) (l : List FieldM) (w : World) (hs : FieldsAt w s l) (hok : s.ok) (hl : l.length ≤ 1048576) :
    Calls Tryz.prog 69 #[.slice s.a s.len s.cap] w fun e w' => ∃ s' : SV, e = .returned (.slice s'.a s'.len s'.cap) ∧ FieldsAt w' s' l ∧ s'.ok ∧ s'.Fresh w ∧ Ext w w' := by
  have q : ∀ (w : World) (a : Option Addr) (n c n' c' : Nat), (binOp .eql 47 (.slice a n c) (.slice none n' c')).run Tryz.prog w = .ok (.bool a.isNone) w := fun w a n c n' c' => Lib.run_eql_slice_nil w _ _ a n c n' c' Tryz.underlying47
  obtain ⟨a, n, cap⟩ := s
  cases a with
  | none =>
    obtain ⟨e0, e1⟩ := hok.nil rfl
    simp only at e0 e1
    subst e0 e1
    show Calls Tryz.prog 69 #[.slice none 0 0] w _
    go_enter Tryz.func69, Tryz.ntmps69
    go_wp2
    go_ret
    exact ⟨⟨none, 0, 0⟩, rfl, hs, hok, fun _ h => (by cases h), Ext.refl w⟩
  | some ad =>
    have hs1 : FieldsAt (w.alloc (.cells #[] 56)) ⟨some ad, n, cap⟩ l := hs.ext ((Ext.refl w).alloc _)
    have hx0 : Ext w (w.alloc (.cells #[] 56)) := (Ext.refl w).alloc _
    show Calls Tryz.prog 69 #[.slice (some ad) n cap] w _
    go_enter Tryz.func69, Tryz.ntmps69
    go_wp2_with (at_builtin; refine wpList_plain rfl fun _ hK => wp_app_all _ _ 47 56 _ 5 56 rfl Tryz.underlying47 info46 rfl (by decide) (by decide) FieldM.cells (fun _ => rfl) one_field w.heap.size _ (owns_new0 w 56 5) w hx0 (Nat.le_refl _) (by simp) rfl ⟨some ad, n, cap⟩ l hs1 (fun h => by cases h) hl rfl fun s' w' h1 h2 h3 h4 => hK _ _ ?_)
    go_ret
    exact ⟨s', rfl, h1, ok_of_owns h4, fresh_of_owns h4 (Nat.le_refl _), h2⟩

set_option maxHeartbeats 400000 in
theorem cloneInts_any (s : SV) (l : List Int) (w : World) (hs : IntsAt w s l) (hok : s.ok) (hl : l.length ≤ 1048576) :
    Calls Tryz.prog 70 #[.slice s.a s.len s.cap] w fun e w' => ∃ s' : SV, e = .returned (.slice s'.a s'.len s'.cap) ∧ IntsAt w' s' l ∧ s'.ok ∧ s'.Fresh w ∧ Ext w w' := by
  have q : ∀ (w : World) (a : Option Addr) (n c n' c' : Nat), (binOp .eql 25 (.slice a n c) (.slice none n' c')).run Tryz.prog w = .ok (.bool a.isNone) w := fun w a n c n' c' => Lib.run_eql_slice_nil w _ _ a n c n' c' Tryz.underlying25
  obtain ⟨a, n, cap⟩ := s
  cases a with
  | none =>
    obtain ⟨e0, e1⟩ := hok.nil rfl
    simp only at e0 e1
    subst e0 e1
    show Calls Tryz.prog 70 #[.slice none 0 0] w _
    go_enter Tryz.func70, Tryz.ntmps70
    go_wp2
    go_ret
    exact ⟨⟨none, 0, 0⟩, rfl, hs, hok, fun _ h => (by cases h), Ext.refl w⟩
  | some ad =>
    have hs1 : IntsAt (w.alloc (.cells #[] 3)) ⟨some ad, n, cap⟩ l := hs.ext ((Ext.refl w).alloc _)
    have hx0 : Ext w (w.alloc (.cells #[] 3)) := (Ext.refl w).alloc _
    show Calls Tryz.prog 70 #[.slice (some ad) n cap] w _
    go_enter Tryz.func70, Tryz.ntmps70
    go_wp2_with (at_builtin; refine wpList_plain rfl fun _ hK => wp_app_all _ _ 25 3 _ 1 8 rfl Tryz.underlying25 info3 rfl (by decide) (by decide) (fun n => [Value.int .i64 n]) (fun _ => rfl) one_int w.heap.size _ (owns_new0 w 3 1) w hx0 (Nat.le_refl _) (by simp) rfl ⟨some ad, n, cap⟩ l hs1 (fun h => by cases h) hl rfl fun s' w' h1 h2 h3 h4 => hK _ _ ?_)
    go_ret
    exact ⟨s', rfl, h1, ok_of_owns h4, fresh_of_owns h4 (Nat.le_refl _), h2⟩

set_option maxHeartbeats 400000 in
theorem cloneItems_any (s : SV) (l : List ItemM) (w : World) (hs : ItemsAt w s l) (hok : s.ok) (hl : l.length ≤ 1048576) :
    Calls Tryz.prog 71 #[.slice s.a s.len s.cap] w fun e w' => ∃ s' : SV, e = .returned (.slice s'.a s'.len s'.cap) ∧ ItemsAt w' s' l ∧ s'.ok ∧ s'.Fresh w ∧ Ext w w' := by
  have q : ∀ (w : World) (a : Option Addr) (n c n' c' : Nat), (binOp .eql 48 (.slice a n c) (.slice none n' c')).run Tryz.prog w = .ok (.bool a.isNone) w := fun w a n c n' c' => Lib.run_eql_slice_nil w _ _ a n c n' c' Tryz.underlying48
  obtain ⟨a, n, cap⟩ := s
  cases a with
  | none =>
    obtain ⟨e0, e1⟩ := hok.nil rfl
    simp only at e0 e1
    subst e0 e1
    show Calls Tryz.prog 71 #[.slice none 0 0] w _
    go_enter Tryz.func71, Tryz.ntmps71
    go_wp2
    go_ret
    exact ⟨⟨none, 0, 0⟩, rfl, hs, hok, fun _ h => (by cases h), Ext.refl w⟩
  | some ad =>
    have hs1 : ItemsAt (w.alloc (.cells #[] 71)) ⟨some ad, n, cap⟩ l := hs.ext ((Ext.refl w).alloc _)
    have hx0 : Ext w (w.alloc (.cells #[] 71)) := (Ext.refl w).alloc _
    show Calls Tryz.prog 71 #[.slice (some ad) n cap] w _
    go_enter Tryz.func71, Tryz.ntmps71
    go_wp2_with (at_builtin; refine wpList_plain rfl fun _ hK => wp_app_all _ _ 48 71 _ 2 24 rfl Tryz.underlying48 info91 rfl (by decide) (by decide) ItemM.cells (fun _ => rfl) one_item w.heap.size _ (owns_new0 w 71 2) w hx0 (Nat.le_refl _) (by simp) rfl ⟨some ad, n, cap⟩ l hs1 (fun h => by cases h) hl rfl fun s' w' h1 h2 h3 h4 => hK _ _ ?_)
    go_ret
    exact ⟨s', rfl, h1, ok_of_owns h4, fresh_of_owns h4 (Nat.le_refl _), h2⟩

set_option maxHeartbeats 800000 in
theorem find_any (s : SV) (ts : BookM) (name : ByteArray) (w : World) (hs : BookAt w s ts) (hn : ts.Small) :
    Calls Tryz.prog 43 #[.agg #[.slice s.a s.len s.cap], .string name] w fun e w' => ∃ tv : TV, e = .returned (.tuple #[.agg #[.string tv.name, .bool tv.enum, .slice tv.fields.a tv.fields.len tv.fields.cap, .slice tv.gone.a tv.gone.len tv.gone.cap, .slice tv.items.a tv.items.len tv.items.cap], .bool (findM ts name).isSome]) ∧ TypeAt w' tv ((findM ts name).getD TypeM.zero) ∧ Ext w w' ∧ tv.fields.Fresh w ∧ tv.gone.Fresh w ∧ tv.items.Fresh w := by
  have hlen := hn.1
  have hsm : ((findM ts name).getD TypeM.zero).fields.length ≤ 1048576 ∧ ((findM ts name).getD TypeM.zero).gone.length ≤ 1048576 ∧ ((findM ts name).getD TypeM.zero).items.length ≤ 1048576 := by
    cases hf : findM ts name with
    | none => simp [TypeM.zero]
    | some t => have := hn.2 t (findM_mem hf); exact ⟨this.fields, this.gone, this.items⟩
  obtain ⟨hs1, hs2, hs3⟩ := hsm
  obtain ⟨T, hT⟩ : ∃ T, (findM ts name).getD TypeM.zero = T := ⟨_, rfl⟩
  rw [hT] at hs1 hs2 hs3
  have hx0 : Ext w ((w.alloc (.cells #[.slice s.a s.len s.cap] 24)).alloc (.cells #[.string ⟨#[]⟩, .bool false, .slice none 0 0, .slice none 0 0, .slice none 0 0] 50)) := ((Ext.refl w).alloc _).alloc _
  have HT := hide hT
  clear hT
  go_enter Tryz.func43, Tryz.ntmps43
  go_wp2_with fail
  refine (lookUp_any s ts name _ (hs.ext hx0) (by omega)).mono ?_
  rintro e w1 ⟨tv, rfl, htv, hx1⟩
  rw [unhide HT] at htv
  have hr1 := hx1.heap (heap_alloc2_new _ _ _)
  have hz1 : w.heap.size + 1 < w1.heap.size := lt_of_heap hr1
  have hE1 : Ext w w1 := hx0.trans hx1
  obtain ⟨nm, en, fs, gs, is⟩ := tv
  replace htv := htv.ext hx1
  have hfs := htv.fields
  have hgs := htv.gone
  have his := htv.items
  have fok := htv.fok
  have gok := htv.gok
  have iok := htv.iok
  have Hnm := hide htv.name
  have Hen := hide htv.enum
  simp only at hfs hgs his fok gok iok Hnm Hen
  clear htv
  have hx1' : Ext w1 (w1.alloc (.cells #[.string nm, .bool en, .slice fs.a fs.len fs.cap, .slice gs.a gs.len gs.cap, .slice is.a is.len is.cap] 50)) := (Ext.refl w1).alloc _
  go_wp2_with fail
  refine (cloneFields_any fs T.fields _ (hfs.ext hx1') fok hs1).mono ?_
  rintro e w2 ⟨fs', rfl, hfs', fok', ffs, hx2⟩
  have hb2 := hx2.heap (heap_alloc_new _ _)
  obtain ⟨a0, a1, a2, a3, a4, af⟩ := row5 hb2
  have hb2' := heap_setCell_same w2 w1.heap.size 2 _ 50 (.slice fs'.a fs'.len fs'.cap) hb2
  have hE2 : Ext w1 (w2.setCell ⟨w1.heap.size, 2, none⟩ (.slice fs'.a fs'.len fs'.cap)) := (hx1'.trans hx2).setCell (by simp) _
  replace hfs' := hfs'.setCell ⟨w1.heap.size, 2, none⟩ (.slice fs'.a fs'.len fs'.cap) (fun ad ha => by have := ffs ad ha; simp at this; simp; omega)
  have hz2 : w1.heap.size < w2.heap.size := lt_of_heap hb2
  go_wp2_with fail
  refine (cloneInts_any gs T.gone _ (hgs.ext hE2) gok hs2).mono ?_
  rintro e w3 ⟨gs', rfl, hgs', gok', fgs, hx3⟩
  have hb3 := hx3.heap hb2'
  clear a0 a1 a2 a3 a4 af
  simp only [List.setIfInBounds_toArray, List.set_cons_succ, List.set_cons_zero] at hb3
  obtain ⟨a0, a1, a2, a3, a4, af⟩ := row5 hb3
  have hb3' := heap_setCell_same w3 w1.heap.size 3 _ 50 (.slice gs'.a gs'.len gs'.cap) hb3
  have hE3 : Ext w1 (w3.setCell ⟨w1.heap.size, 3, none⟩ (.slice gs'.a gs'.len gs'.cap)) := (hE2.trans hx3).setCell (by simp) _
  have ffs3 : ∀ ad, fs'.a = some ad → ad.block ≠ w1.heap.size := fun ad ha => by have := ffs ad ha; simp at this; omega
  have fgs3 : ∀ ad, gs'.a = some ad → ad.block ≠ w1.heap.size := fun ad ha => by have := fgs ad ha; simp at this; omega
  replace hfs' := (hfs'.ext hx3).setCell ⟨w1.heap.size, 3, none⟩ (.slice gs'.a gs'.len gs'.cap) ffs3
  replace hgs' := hgs'.setCell ⟨w1.heap.size, 3, none⟩ (.slice gs'.a gs'.len gs'.cap) fgs3
  have hz3 : w1.heap.size < w3.heap.size := lt_of_heap hb3
  clear hb2 hb2' hx2
  go_wp2_with fail
  refine (cloneItems_any is T.items _ (his.ext hE3) iok hs3).mono ?_
  rintro e w4 ⟨is', rfl, his', iok', fis, hx4⟩
  have hb4 := hx4.heap hb3'
  clear a0 a1 a2 a3 a4 af
  simp only [List.setIfInBounds_toArray, List.set_cons_succ, List.set_cons_zero] at hb4
  obtain ⟨a0, a1, a2, a3, a4, af⟩ := row5 hb4
  have fis3 : ∀ ad, is'.a = some ad → ad.block ≠ w1.heap.size := fun ad ha => by have := fis ad ha; simp at this; omega
  have hE4 : Ext w1 (w4.setCell ⟨w1.heap.size, 4, none⟩ (.slice is'.a is'.len is'.cap)) := (hE3.trans hx4).setCell (by simp) _
  replace hfs' := (hfs'.ext hx4).setCell ⟨w1.heap.size, 4, none⟩ (.slice is'.a is'.len is'.cap) ffs3
  replace hgs' := (hgs'.ext hx4).setCell ⟨w1.heap.size, 4, none⟩ (.slice is'.a is'.len is'.cap) fgs3
  replace his' := his'.setCell ⟨w1.heap.size, 4, none⟩ (.slice is'.a is'.len is'.cap) fis3
  obtain ⟨r0, r1, r2, r3, r4, rf⟩ := row5 ((hE3.trans hx4).heap hr1)
  have hz4 : w.heap.size + 1 < w4.heap.size := lt_of_heap ((hE3.trans hx4).heap hr1)
  have hz4' : w1.heap.size < w4.heap.size := lt_of_heap hb4
  clear hb3 hb3' hx3 hb4 hx4 hx1 hr1
  go_wp2
  refine bodyPost_ret (v := .tuple #[.agg #[.string nm, .bool en, .slice fs'.a fs'.len fs'.cap, .slice gs'.a gs'.len gs'.cap, .slice is'.a is'.len is'.cap], .bool (findM ts name).isSome]) ?_ rfl ⟨⟨nm, en, fs', gs', is'⟩, rfl, ?_, ?_, ?_⟩
  · simp [results, Tryz.results43, go_sem, r0, r1, r2, r3, r4]
  · rw [unhide HT]
    have kf : ∀ ad, fs'.a = some ad → ad.block ≠ w.heap.size + 1 := fun ad ha => by have := ffs ad ha; simp at this; omega
    have kg : ∀ ad, gs'.a = some ad → ad.block ≠ w.heap.size + 1 := fun ad ha => by have := fgs ad ha; simp at this; omega
    have ki : ∀ ad, is'.a = some ad → ad.block ≠ w.heap.size + 1 := fun ad ha => by have := fis ad ha; simp at this; omega
    exact ⟨unhide Hnm, unhide Hen, ((((hfs'.setCell _ _ kf).setCell _ _ kf).setCell _ _ kf).setCell _ _ kf).setCell _ _ kf, ((((hgs'.setCell _ _ kg).setCell _ _ kg).setCell _ _ kg).setCell _ _ kg).setCell _ _ kg, ((((his'.setCell _ _ ki).setCell _ _ ki).setCell _ _ ki).setCell _ _ ki).setCell _ _ ki, fok', gok', iok'⟩
  · exact ((((((hE1.trans hE4).setCell (by simp) _).setCell (by simp) _).setCell (by simp) _).setCell (by simp) _).setCell (by simp) _)
  · exact ⟨fun ad ha => by have := ffs ad ha; simp at this; omega, fun ad ha => by have := fgs ad ha; simp at this; omega, fun ad ha => by have := fis ad ha; simp at this; omega⟩
end Go.Proofs.YtmdpdgldmedebaaGreatDoor

