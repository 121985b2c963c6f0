import Derived.Test.YtmdpdgldmedebaaGreatDoorM32
namespace Go.Proofs.YtmdpdgldmedebaaGreatDoor
set_option linter.unusedSimpArgs false
set_option linter.unusedVariables false
set_option linter.unusedSimpArgs false
set_option linter.unusedVariables false
open Go.RowKit

theorem less_not : ∀ (x y : List UInt8), Op.bytesLess x y = true → Op.bytesLess y x = false ∧ (y == x) = false
  | [], [], h => by simp [Op.bytesLess] at h
  | [], _ :: _, _ => by simp [Op.bytesLess]
  | _ :: _, [], h => by simp [Op.bytesLess] at h
  | a :: x, b :: y, h => by
    have ih := less_not x y
    unfold Op.bytesLess at h ⊢
    by_cases e : a = b
    · subst e
      simp at h ⊢
      have := ih h
      simpa using this
    · have e2 : ¬ b = a := fun h => e h.symm
      simp [e, e2] at h ⊢
      have h2 : a.toNat < b.toNat := h
      have h3 : ¬ b.toNat < a.toNat := by omega
      exact UInt8.not_lt.1 h3
theorem less_or : ∀ (x y : List UInt8), Op.bytesLess x y = false → Op.bytesLess y x = true ∨ (y == x) = true
  | [], [], _ => by simp
  | [], _ :: _, h => by simp [Op.bytesLess] at h
  | _ :: _, [], _ => by simp [Op.bytesLess]
  | a :: x, b :: y, h => by
    have ih := less_or x y
    unfold Op.bytesLess at h ⊢
    by_cases e : a = b
    · subst e
      simp at h ⊢
      simpa using ih h
    · have e2 : ¬ b = a := fun h => e h.symm
      simp [e, e2] at h ⊢
      have h2 : ¬ a.toNat < b.toNat := fun k => by
        have k2 : a < b := k
        exact absurd k2 (UInt8.not_lt.2 h)
      have h3 : a.toNat ≠ b.toNat := fun k => e (UInt8.toNat_inj.1 k)
      exact show b.toNat < a.toNat by omega
def lastN (ts : BookM) (k : Nat) : ByteArray := if k = 0 then ⟨#[]⟩ else (ts.getD (k - 1) TypeM.zero).name
theorem lastN_succ {ts : BookM} {k : Nat} (hk : k < ts.length) : lastN ts (k + 1) = ts[k].name := by
  unfold lastN; rw [if_neg (by omega)]; simp [List.getD, hk]
theorem ok_split {ts : BookM} {k : Nat} (hk : k < ts.length) : typeOkAt ts k = (namedL ts[k].name.toList && Op.bytesLess (lastN ts k).toList ts[k].name.toList && (if ts[k].enum then goodEnumM ts[k] else goodMessageM ts ts[k])) := by
  have e1 : ts.getD k TypeM.zero = ts[k] := by simp [List.getD, hk]
  unfold typeOkAt lastN goodTypeM
  rw [e1]
  by_cases h0 : k = 0
  · subst h0
    rw [if_pos rfl]
    cases hn : namedL ts[0].name.toList
    · simp
    · have hl : Op.bytesLess (ByteArray.mk #[]).toList ts[0].name.toList = true := by
        cases he : ts[0].name.toList with
        | nil => rw [he] at hn; exact absurd hn (by decide)
        | cons c r => rw [bytes_toList]; rfl
      rw [hl]; simp
  · rw [if_neg h0, show (k == 0) = false by simpa using h0]
    cases namedL ts[k].name.toList <;> cases Op.bytesLess (ts.getD (k - 1) TypeM.zero).name.toList ts[k].name.toList <;> simp
set_option maxHeartbeats 3200000 in
theorem goodBook_any (s : SV) (ts : BookM) (hn : ts.Small) (w : World) (hs : BookAt w s ts) (hm : MaxAt w) :
    Calls Tryz.prog 29 #[.agg #[.slice s.a s.len s.cap]] w fun e w' => e = .returned (.int .i64 (goodM ts)) ∧ Ext w w' := by
  have hlen := hn.1
  obtain ⟨a, n, cap⟩ := s
  have hl := hs.1
  simp only at hl
  subst hl
  have Hs : Hid (BookAt w ⟨a, ts.length, cap⟩ ts) := hs
  have Hn := hide hn
  clear hs hn
  show Calls Tryz.prog 29 #[.agg #[.slice a ts.length cap]] w _
  by_cases h4 : 4 < ts.length
  · have E : Hid (goodM ts = 7) := by unfold Hid goodM; rw [if_pos h4]
    go_enter Tryz.func29, Tryz.ntmps29
    go_wp2
    go_ret
    exact ⟨ret_int E.out.symm, (Ext.refl w).alloc _⟩
  go_enter Tryz.func29, Tryz.ntmps29
  go_wp2
  go_loopw [3, 16] (fun l i wr => ∃ (k : Nat), k ≤ ts.length ∧ i = .int .i64 k ∧ l = .string (lastN ts k) ∧ AllTo (typeOkAt ts) k ∧ Ext (w.alloc (.cells #[.slice a ts.length cap] 24)) wr) (fun _ i wr => ts.length - (intOf i).toNat)
  case atStart => exact ⟨0, by omega, rfl, rfl, AllTo.zero _, Ext.refl _⟩
  case round =>
    obtain ⟨k, hk, rfl, rfl, hne, hx⟩ := hrel
    have hE : Ext w wr := ((Ext.refl w).alloc _).trans hx
    have q0 := (hx.whole (heap_alloc_new _ _)).1 0 (.slice a ts.length cap) rfl
    have hz : w.heap.size < wr.heap.size := by have := hx.size; simp at this; omega
    by_cases hlt : k < ts.length
    · obtain ⟨b, o, cs, ea, hr, tv, rfl, htv⟩ := Hs.out.2 k ts[k] (by simp [hlt])
      simp only at ea
      subst ea
      obtain ⟨c0, c1, c2, c3, c4⟩ := range5 (hE.range hr)
      have Htv : Hid (TypeAt w tv ts[k]) := htv
      have Hsm : Hid (ts[k].Small) := (unhide Hn).2 ts[k] (List.getElem_mem hlt)
      have Hok : Hid (typeOkAt ts k = (namedL tv.name.toList && Op.bytesLess (lastN ts k).toList tv.name.toList && (if ts[k].enum then goodEnumM ts[k] else goodMessageM ts ts[k]))) := by
        unfold Hid; rw [ok_split hlt, htv.name]
      have Hls : Hid (lastN ts (k + 1) = tv.name) := by unfold Hid; rw [lastN_succ hlt, htv.name]
      have hnm : tv.name.size ≤ 1048576 := by rw [htv.name]; exact Hsm.out.name
      clear htv hr
      cases hna : namedL tv.name.toList
      · have Hna := hide hna
        go_wp2_with fail
        refine (isName_any tv.name _ (by omega) (hm.ext (hE.alloc _))).mono ?_
        rintro e w1 ⟨rfl, hx1⟩
        rw [unhide Hna]
        go_wp2
        go_ret
        exact ⟨ret_int (goodM_bad h4 hlt (Hok.out.trans (by rw [unhide Hna]; rfl))).symm, (hE.alloc _).trans hx1⟩
      · have Hna := hide hna
        clear hna
        cases hbl : Op.bytesLess (lastN ts k).toList tv.name.toList
        · have Hbl := hide hbl
          have hor := less_or _ _ hbl
          clear hbl
          rcases hor with hle | hle
          all_goals
            go_wp2_with fail
            refine (isName_any tv.name _ (by omega) (hm.ext (hE.alloc _))).mono ?_
            rintro e w1 ⟨rfl, hx1⟩
            rw [unhide Hna]
            have r0 := (row5_of (hx1.heap (heap_alloc_new _ _))).1
            go_wp2
            go_ret
            exact ⟨ret_int (goodM_bad h4 hlt (Hok.out.trans (by rw [unhide Hna, unhide Hbl]; rfl))).symm, (hE.alloc _).trans hx1⟩
        · have Hbl := hide hbl
          obtain ⟨hl1, hl2⟩ := less_not _ _ hbl
          clear hbl
          go_wp2_with fail
          refine (isName_any tv.name _ (by omega) (hm.ext (hE.alloc _))).mono ?_
          rintro e w1 ⟨rfl, hx1⟩
          rw [unhide Hna]
          have hr1 := row5 (hx1.heap (heap_alloc_new _ _))
          obtain ⟨r0, r1, r2, r3, r4, rf⟩ := hr1
          have hE1 : Ext w w1 := (hE.alloc _).trans hx1
          have hX1 := (hx.alloc _).trans hx1
          have q1 : w1.cell? ⟨w.heap.size, 0, none⟩ = some (.slice (some ⟨b, o, none⟩) ts.length cap) := (((Ext.refl wr).alloc _).trans hx1).cell q0
          go_wp2_with fail
          refine (goodTypeR_any ⟨some ⟨b, o, none⟩, ts.length, cap⟩ ts tv ts[k] _ (Hs.out.ext hE1) (Htv.out.ext hE1) Hsm.out hlen (hm.ext hE1)).mono ?_
          rintro e w2 ⟨rfl, hx2⟩
          cases hg : (if ts[k].enum then goodEnumM ts[k] else goodMessageM ts ts[k])
          · have Hg := hide hg
            go_wp2
            go_ret
            exact ⟨ret_int (goodM_bad h4 hlt (Hok.out.trans (by rw [unhide Hna, unhide Hbl, unhide Hg]; rfl))).symm, hE1.trans hx2⟩
          · have Hg := hide hg
            go_wp2
            exact ⟨⟨k + 1, by omega, by go_num, by rw [unhide Hls], hne.succ (Hok.out.trans (by rw [unhide Hna, unhide Hbl, unhide Hg]; rfl)), hX1.trans hx2⟩, by simp [intOf]; omega⟩
    · have E : Hid (goodM ts = if (List.range ts.length).all (leastOkAt ts) then 0 else 7) := by
        unfold Hid goodM
        rw [if_neg h4, if_pos (AllTo.all hne (by omega))]
      clear hne
      go_wp2
      go_loopw [40] (fun i wr2 => ∃ (k : Nat), k ≤ ts.length ∧ i = .int .i64 k ∧ AllTo (leastOkAt ts) k ∧ Ext (w.alloc (.cells #[.slice a ts.length cap] 24)) wr2) (fun i wr => ts.length - (intOf i).toNat)
      case atStart => exact ⟨0, by omega, rfl, AllTo.zero _, hx⟩
      case round =>
        clear hE q0 hz hx
        obtain ⟨j, hj, rfl, hne, hx⟩ := hrel
        have hE : Ext w wr := ((Ext.refl w).alloc _).trans hx
        have q0 := (hx.whole (heap_alloc_new _ _)).1 0 (.slice a ts.length cap) rfl
        have hz : w.heap.size < wr.heap.size := by have := hx.size; simp at this; omega
        by_cases hlt2 : j < ts.length
        · obtain ⟨b, o, cs, ea, hr, tv, rfl, htv⟩ := Hs.out.2 j ts[j] (by simp [hlt2])
          simp only at ea
          subst ea
          obtain ⟨c0, c1, c2, c3, c4⟩ := range5 (hE.range hr)
          have Hok : Hid (leastOkAt ts j = (tv.enum || goodLeastB (leastM ts 4 tv.name))) := by
            unfold Hid leastOkAt
            rw [show ts.getD j TypeM.zero = ts[j] by simp [List.getD, hlt2], htv.enum, htv.name]
          have hnm : tv.name.size ≤ 1048576 := by rw [htv.name]; exact ((unhide Hn).2 ts[j] (List.getElem_mem hlt2)).name
          clear htv hr
          obtain ⟨nm, en, fs, gs, is⟩ := tv
          simp only at c0 c1 c2 c3 c4 Hok hnm
          cases en
          · go_wp2_with fail
            refine (leastIn_any ⟨some ⟨b, o, none⟩, ts.length, cap⟩ ts (unhide Hn) nm hnm _ ?_).mono ?_
            · exact Hs.out.ext (hE.alloc _)
            rintro e w1 ⟨rfl, hx1⟩
            have hx1' := (hx.alloc _).trans hx1
            have hE1 := (hE.alloc _).trans hx1
            clear hx1
            have hb0 := (leastM_bd ts 4 nm).1
            have hb1 := (leastM_bd ts 4 nm).2
            generalize leastM ts 4 nm = n at *
            by_cases hn0 : n = 0
            · have Hn0 := hide hn0
              go_wp2
              go_ret
              refine ⟨ret_int ?_, hE1⟩
              rw [E.out, not_all_range hlt2 (Hok.out.trans (by rw [unhide Hn0]; rfl))]
              rfl
            · have hnb : (n == 0) = false := by simpa using hn0
              by_cases h12 : 12 < n
              · have H12 := hide h12
                go_wp2
                go_ret
                refine ⟨ret_int ?_, hE1⟩
                rw [E.out, not_all_range hlt2 (Hok.out.trans (by have := unhide H12; unfold goodLeastB; simp; omega))]
                rfl
              · have H12 := hide h12
                have Hnz := hide hn0
                go_wp2
                exact ⟨⟨j + 1, by omega, by go_num, hne.succ (Hok.out.trans (by have := unhide H12; have := unhide Hnz; unfold goodLeastB; simp; omega)), hx1'⟩, by simp [intOf]; omega⟩
          · go_wp2
            exact ⟨⟨j + 1, by omega, by go_num, hne.succ (Hok.out.trans rfl), hx.alloc _⟩, by simp [intOf]; omega⟩
        · go_wp2
          go_ret
          refine ⟨ret_int ?_, hE⟩
          rw [E.out, AllTo.all hne (by omega)]
          rfl
end Go.Proofs.YtmdpdgldmedebaaGreatDoor

