import Derived.Test.YtblkgaoafejefaaDoorW10
import Derived.Deep.QuietTactic
import Derived.BigQuiet
import Derived.Laws.Cover1
namespace Go.Proofs.YtblkgaoafejefaaDoor
set_option linter.unusedSimpArgs false
set_option linter.unusedVariables false
open Go.RowKit

set_option maxHeartbeats 400000 in
theorem least_any (s : SV) (ts : BookM) (hn : ts.Fits) (name : ByteArray) (w : World) (hs : BookAt w s ts) :
    Calls Tryd.prog 18 #[.agg #[.slice s.a s.len s.cap], .string name] w fun e w' => e = .returned (.int .i64 (leastM ts 4 name)) ∧ Ext w w' := by
  have hx0 : Ext w (w.alloc (.cells #[.slice s.a s.len s.cap] 24)) := (Ext.refl w).alloc _
  go_enter Tryd.func18, Tryd.ntmps18
  go_wp2_with fail
  refine (leastWithin_any s ts hn 4 (by omega) 4 rfl name _ (hs.ext hx0)).mono ?_
  rintro e w1 ⟨rfl, hx1⟩
  go_wp2
  go_ret
  exact ⟨rfl, hx0.trans hx1⟩

def typeOkAt (b : BookM) (i : Nat) : Bool := (i == 0 || Op.bytesLess (b.getD (i - 1) TypeM.zero).name.toList (b.getD i TypeM.zero).name.toList) && goodTypeM b (b.getD i TypeM.zero)
def leastOkAt (b : BookM) (i : Nat) : Bool := (b.getD i TypeM.zero).enum || goodLeastB (leastM b 4 (b.getD i TypeM.zero).name)
def goodM (b : BookM) : Int :=
  if 4 < b.length then 7
  else if (List.range b.length).all (typeOkAt b) then (if (List.range b.length).all (leastOkAt b) then 0 else 7) else 1

theorem Ext.drewN {a w : World} (h : Ext a w) (n : Nat) : Ext a (w.drewN n) := h.trans ⟨rfl, rfl, rfl, Nat.le_refl _, fun _ _ => rfl⟩
theorem goodM_bad {ts : BookM} {k : Nat} (h4 : ¬ 4 < ts.length) (hk : k < ts.length) (h : typeOkAt ts k = false) : goodM ts = 1 := by
  unfold goodM
  rw [if_neg h4, not_all_range hk h]; rfl

set_option maxHeartbeats 1600000 in
theorem good_any (s : SV) (ts : BookM) (hn : ts.Fits) (w : World) (hs : BookAt w s ts) (hw : WordsAt w) :
    Calls Tryd.prog 9 #[.agg #[.slice s.a s.len s.cap]] w fun e w' => e = .returned (.int .i64 (goodM ts)) ∧ Ext w w' := by
  have hlen := hn.1
  obtain ⟨a, n, cap⟩ := s
  have hl := hs.1
  simp only at hl
  subst hl
  have Hs : Hid (BookAt w ⟨a, ts.length, cap⟩ ts) := hs
  clear hs
  show Calls Tryd.prog 9 #[.agg #[.slice a ts.length cap]] w _
  by_cases h4 : 4 < ts.length
  · have E : Hid (goodM ts = 7) := by unfold Hid goodM; rw [if_pos h4]
    go_enter Tryd.func9, Tryd.ntmps9
    go_wp2
    go_ret
    exact ⟨ret_int E.out.symm, (Ext.refl w).alloc _⟩
  go_enter Tryd.func9, Tryd.ntmps9
  go_wp2
  go_loopw [14] (fun i wr => ∃ (k : Nat), k ≤ ts.length ∧ i = .int .i64 k ∧ AllTo (typeOkAt ts) k ∧ Ext (w.alloc (.cells #[.slice a ts.length cap] 24)) wr) (fun i wr => ts.length - (intOf i).toNat)
  case atStart => exact ⟨0, by omega, rfl, AllTo.zero _, Ext.refl _⟩
  case round =>
    obtain ⟨k, hk, rfl, hne, hx⟩ := hrel
    have hE : Ext w wr := ((Ext.refl w).alloc _).trans hx
    have q0 := (hx.whole (heap_alloc_new _ _)).1 0 (.slice a ts.length cap) rfl
    have hz : w.heap.size < wr.heap.size := by have := hx.size; simp at this; omega
    by_cases hlt : k < ts.length
    · obtain ⟨b, o, cs, ea, hr, tv, rfl, htv⟩ := Hs.out.2 k ts[k] (by simp [hlt])
      simp only at ea
      subst ea
      obtain ⟨c0, c1, c2, c3, c4⟩ := range5 (hE.range hr)
      have Htv : Hid (TypeAt w tv ts[k]) := htv
      clear htv hr
      have Hsm : Hid (ts[k].Fits) := hn.2 ts[k] (List.getElem_mem hlt)
      have Hkk : Hid (ts.getD k TypeM.zero = ts[k]) := by simp [Hid, List.getD, hlt]
      by_cases hk0 : k < 1
      · have hd : decide (0 < k) = false := by simp; omega
        have Hok : Hid (typeOkAt ts k = goodTypeM ts ts[k]) := by
          unfold Hid typeOkAt; rw [Hkk.out, show (k == 0) = true by simp; omega]; rfl
        go_wp2
        go_quiet (fail)
        go_wp2_with fail
        refine (goodType_any ⟨some ⟨b, o, none⟩, ts.length, cap⟩ ts tv ts[k] _ ?_ ?_ ?_ hlen Hsm.out).mono ?_
        · exact Hs.out.ext ((hE.alloc _).drewN _)
        · exact Htv.out.ext ((hE.alloc _).drewN _)
        · exact hw.ext ((hE.alloc _).drewN _)
        rintro e w1 ⟨rfl, hx1⟩
        have hx1' := ((hx.alloc _).drewN _).trans hx1
        have hE1 := ((hE.alloc _).drewN _).trans hx1
        clear hx1
        cases hg : goodTypeM ts ts[k]
        · have Hg := hide hg
          go_wp2
          go_ret
          exact ⟨ret_int (goodM_bad h4 hlt (Hok.out.trans Hg.out)).symm, hE1⟩
        · have Hg := hide hg
          go_wp2
          exact ⟨⟨k + 1, by omega, by go_num, hne.succ (Hok.out.trans Hg.out), hx1'⟩, by simp [intOf]; omega⟩
      · obtain ⟨b2, o2, cs2, ea2, hr2, tv2, rfl, htv2⟩ := Hs.out.2 (k - 1) ts[k - 1] (by simp [show k - 1 < ts.length by omega])
        simp only [Option.some.injEq, Addr.mk.injEq] at ea2
        obtain ⟨rfl, rfl, _⟩ := ea2
        obtain ⟨d0, _, _, _, _⟩ := range5 (hE.range hr2)
        have Hok : Hid (typeOkAt ts k = (Op.bytesLess tv2.name.toList tv.name.toList && goodTypeM ts ts[k])) := by
          unfold Hid typeOkAt
          rw [Hkk.out, show (k == 0) = false by simp; omega, show ts.getD (k - 1) TypeM.zero = ts[k - 1] by simp [List.getD, show k - 1 < ts.length by omega], htv2.name, Htv.out.name]
          rfl
        clear htv2 hr2
        have hd : decide (0 < k) = true := by simp; omega
        have hlt1 : k - 1 < ts.length := by omega
        have hbz : b < wr.heap.size := World.block_lt_of_cell? wr _ d0
        have hwr : IntKind.i64.wrap ((k : Int) - 1) = ((k - 1 : Nat) : Int) := by
          rw [IntKind.wrap_i64]; omega
        cases hbl : Op.bytesLess tv2.name.toList tv.name.toList
        · have Hbl := hide hbl
          go_wp2
          go_quiet (fail)
          go_wp2
          go_ret
          exact ⟨ret_int (goodM_bad h4 hlt (Hok.out.trans (by rw [Hbl.out]; rfl))).symm, (hE.alloc _).drewN _⟩
        · have Hbl := hide hbl
          go_wp2
          go_quiet (fail)
          go_wp2_with fail
          refine (goodType_any ⟨some ⟨b, o, none⟩, ts.length, cap⟩ ts tv ts[k] _ ?_ ?_ ?_ hlen Hsm.out).mono ?_
          · exact Hs.out.ext ((hE.alloc _).drewN _)
          · exact Htv.out.ext ((hE.alloc _).drewN _)
          · exact hw.ext ((hE.alloc _).drewN _)
          rintro e w1 ⟨rfl, hx1⟩
          have hx1' := ((hx.alloc _).drewN _).trans hx1
          have hE1 := ((hE.alloc _).drewN _).trans hx1
          clear hx1
          cases hg : goodTypeM ts ts[k]
          · have Hg := hide hg
            go_wp2
            go_ret
            exact ⟨ret_int (goodM_bad h4 hlt (Hok.out.trans (by rw [Hbl.out, Hg.out]; rfl))).symm, hE1⟩
          · have Hg := hide hg
            go_wp2
            exact ⟨⟨k + 1, by omega, by go_num, hne.succ (Hok.out.trans (by rw [Hbl.out, Hg.out]; rfl)), hx1'⟩, by simp [intOf]; omega⟩
    · have E : Hid (goodM ts = if (List.range ts.length).all (leastOkAt ts) then 0 else 7) := by
        unfold Hid goodM
        rw [if_neg h4, if_pos (AllTo.all hne (by omega))]
      clear hne
      go_wp2
      go_loopw [41] (fun i wr2 => ∃ (k : Nat), k ≤ ts.length ∧ i = .int .i64 k ∧ AllTo (leastOkAt ts) k ∧ Ext (w.alloc (.cells #[.slice a ts.length cap] 24)) wr2) (fun i wr => ts.length - (intOf i).toNat)
      case atStart => exact ⟨0, by omega, rfl, AllTo.zero _, hx⟩
      case round =>
        clear hE q0 hz hx
        obtain ⟨j, hj, rfl, hne, hx⟩ := hrel
        have hE : Ext w wr := ((Ext.refl w).alloc _).trans hx
        have q0 := (hx.whole (heap_alloc_new _ _)).1 0 (.slice a ts.length cap) rfl
        have hz : w.heap.size < wr.heap.size := by have := hx.size; simp at this; omega
        by_cases hlt2 : j < ts.length
        · obtain ⟨b, o, cs, ea, hr, tv, rfl, htv⟩ := Hs.out.2 j ts[j] (by simp [hlt2])
          simp only at ea
          subst ea
          obtain ⟨c0, c1, c2, c3, c4⟩ := range5 (hE.range hr)
          have Hok : Hid (leastOkAt ts j = (tv.enum || goodLeastB (leastM ts 4 tv.name))) := by
            unfold Hid leastOkAt
            rw [show ts.getD j TypeM.zero = ts[j] by simp [List.getD, hlt2], htv.enum, htv.name]
          clear htv hr
          obtain ⟨nm, en, fs, gs, is⟩ := tv
          simp only at c0 c1 c2 c3 c4 Hok
          cases en
          · go_wp2_with fail
            refine (least_any ⟨some ⟨b, o, none⟩, ts.length, cap⟩ ts hn nm _ ?_).mono ?_
            · exact Hs.out.ext (hE.alloc _)
            rintro e w1 ⟨rfl, hx1⟩
            have hx1' := (hx.alloc _).trans hx1
            have hE1 := (hE.alloc _).trans hx1
            clear hx1
            go_wp2_with fail
            refine (goodLeast_any _ _).mono ?_
            rintro e w2 ⟨rfl, rfl⟩
            cases hg : goodLeastB (leastM ts 4 nm)
            · have Hg := hide hg
              go_wp2
              go_ret
              refine ⟨ret_int ?_, hE1⟩
              rw [E.out, not_all_range hlt2 (Hok.out.trans (by rw [Hg.out]; rfl))]
              rfl
            · have Hg := hide hg
              go_wp2
              exact ⟨⟨j + 1, by omega, by go_num, hne.succ (Hok.out.trans (by rw [Hg.out]; rfl)), hx1'⟩, by simp [intOf]; omega⟩
          · go_wp2
            exact ⟨⟨j + 1, by omega, by go_num, hne.succ (Hok.out.trans rfl), hx.alloc _⟩, by simp [intOf]; omega⟩
        · go_wp2
          go_ret
          refine ⟨ret_int ?_, hE⟩
          rw [E.out, AllTo.all hne (by omega)]
          rfl
end Go.Proofs.YtblkgaoafejefaaDoor
