import Derived.Test.YtmdpdgldmedebaaGreatDoorM31
import Derived.StringKeys
namespace Go.Proofs.YtmdpdgldmedebaaGreatDoor
set_option linter.unusedSimpArgs false
set_option linter.unusedVariables false
set_option linter.unusedSimpArgs false
set_option linter.unusedVariables false
open Go.RowKit Go.Maps

theorem law9 : Keyed Tryz.prog 9 := string_keyed Tryz.underlying9
theorem zero3 (w : World) : (zeroValue 3).run Tryz.prog w = .ok (.int .i64 0) w := by kernel_rfl
theorem key9 {s : ByteArray} (h : s.size ≤ 1048576) : keyOf Tryz.prog 9 (.string s) = some (klOf s) := Go.WideMaps.keyOf_string_mk Tryz.underlying9 (by unfold maxLen; omega)
theorem MapIs.ext {w w' : World} {B n : Nat} {g : ByteArray → Option Int} (h : MapIs w B n g) (he : Ext w w') : MapIs w' B n g := by
  obtain ⟨D, ⟨es, clock, h1, h2, h3, h4⟩, h5⟩ := h
  exact ⟨D, ⟨es, clock, he.heap h1, h2, h3, h4⟩, h5⟩
theorem wf_small {a : Int} (h0 : 0 ≤ a) (h1 : a ≤ 9223372036854775807) : (Lit.int .i64 a).wf = true := WalkArith.wf_i64 (by omega)
theorem roundN_drop {K : ByteArray → Int} {l : List FieldM} {k : Nat} {acc : Int} (hk : k < l.length) :
    roundN K (l.drop k) acc = roundN K (l.drop (k + 1)) (if l[k].rule ≠ 1 then acc else if l[k].kind ≠ 5 then acc + 1 else acc + K l[k].type) := by
  rw [List.drop_eq_getElem_cons hk, roundN_cons]
theorem roundE_drop {K : ByteArray → Int} {l : List FieldM} {k : Nat} (hk : k < l.length) :
    roundE K (l.drop k) = ((decide (l[k].rule ≠ 1) || decide (l[k].kind ≠ 5) || decide (0 < K l[k].type)) && roundE K (l.drop (k + 1))) := by
  rw [List.drop_eq_getElem_cons hk, roundE_cons]
theorem val_of {K : ByteArray → Int} {t : TypeM} {en : Bool} (h : ((!t.enum && decide (t.fields.length < 6)) && roundE K t.fields) = en) : valR K t = if en = true then roundN K t.fields 1 else 0 := by
  subst h
  unfold valR
  cases he : t.enum <;> simp
theorem lit_inj {a b : Int} (h : (DataW.lit (.int .i64 a) : DataW Unit) = .lit (.int .i64 b)) : a = b := by
  injection h with h; injection h
theorem row5_of {w : World} {g : Nat} {t : TypeId} {c0 c1 c2 c3 c4 : Value} (hb : w.heap[g]? = some (.cells #[c0, c1, c2, c3, c4] t (0, 0))) : w.cell? ⟨g, 0, none⟩ = some c0 ∧ w.cell? ⟨g, 1, none⟩ = some c1 ∧ w.cell? ⟨g, 2, none⟩ = some c2 :=
  let ⟨a, b, c, _⟩ := row5 hb; ⟨a, b, c⟩

theorem dec6 (n : Nat) : decide ((n : Int) < 6) = decide (n < 6) := decide_eq_decide.2 (by omega)
theorem grown_row {w w' : World} {B g : Nat} {o : Obj} (h : w.grownBy w' (some B)) (hr : w.heap[g]? = some o) (hne : g ≠ B) : w'.heap[g]? = some o :=
  (h.block g (Array.getElem?_eq_some_iff.1 hr).1 (by simp [hne])).trans hr
theorem grown_cell {w w' : World} {B g : Nat} {v : Value} (h : w.grownBy w' (some B)) (hr : w.cell? ⟨g, 0, none⟩ = some v) (hne : g ≠ B) : w'.cell? ⟨g, 0, none⟩ = some v := by
  exact h.cell hr (by simp [hne])
theorem step_and {a b c d : Bool} (h : a = (b && c)) (h2 : c = d) : a = (b && d) := by rw [h, h2]

set_option maxHeartbeats 3200000 in
set_option maxRecDepth 10000 in
theorem leastIn_any (s : SV) (ts : BookM) (hn : ts.Small) (name : ByteArray) (hname : name.size ≤ 1048576) (w : World) (hs : BookAt w s ts) :
    Calls Tryz.prog 49 #[.agg #[.slice s.a s.len s.cap], .string name] w fun e w' => e = .returned (.int .i64 (leastM ts 4 name)) ∧ Ext w w' := by
  have hmm := @run_makeMap Tryz.prog
  have hlen := hn.1
  obtain ⟨a, n, cap⟩ := s
  have hl := hs.1
  simp only at hl
  subst hl
  have Hs := hide hs
  have Hn := hide hn
  clear hs hn
  have hkn := key9 hname
  show Calls Tryz.prog 49 #[.agg #[.slice a ts.length cap], .string name] w _
  have hx0 : Ext w (w.alloc (.cells #[.slice a ts.length cap] 24)) := (Ext.refl w).alloc _
  obtain ⟨W0, hW0⟩ : ∃ W0, W0 = w.alloc (.cells #[.slice a ts.length cap] 24) := ⟨_, rfl⟩
  have HW0 := hide hW0
  have hz0 : W0.heap.size = w.heap.size + 1 := by rw [hW0]; simp
  have r0 : W0.heap[w.heap.size]? = some (.cells #[.slice a ts.length cap] 24 (0, 0)) := by rw [hW0]; exact heap_alloc_new _ _
  rw [← hW0] at hx0
  clear hW0
  go_enter Tryz.func49, Tryz.ntmps49
  go_wp2
  rw [← unhide HW0]
  go_loopw [5, 16] (fun m i wr => ∃ (k B n : Nat) (g : ByteArray → Option Int), k ≤ 4 ∧ i = .int .i64 k ∧ m = .map (some B) ∧ W0.heap.size ≤ B ∧ MapIs wr B n g ∧ (∀ x, (g x).getD 0 = leastM ts k x) ∧ Ext W0 wr) (fun _ i _ => 4 - (intOf i).toNat)
  case atStart => exact ⟨0, W0.heap.size, 0, fun _ => none, by omega, rfl, by rw [hz0], by omega, MapIs.made _, fun x => by simp [leastM], (Ext.refl _).alloc _⟩
  case round =>
    obtain ⟨k, B, nB, g, hk, rfl, rfl, hB, hmap, hg, hx⟩ := hrel
    have hE := hx0.trans hx
    by_cases hk4 : k < 4
    · have hst : w.heap.size < wr.heap.size := by have := hx.size; omega
      have cS : wr.cell? ⟨w.heap.size, 0, none⟩ = some (.slice a ts.length cap) := cell_of_row _ _ 0 _ _ _ (hx.heap r0)
      obtain ⟨K, hK⟩ : ∃ K : ByteArray → Int, K = fun x => (g x).getD 0 := ⟨_, rfl⟩
      have HK : Hid (K = leastM ts k) := by unfold Hid; rw [hK]; funext x; exact hg x
      have HKg := hide hK
      clear hK hg
      have hKb : ∀ x, 0 ≤ K x ∧ K x ≤ 1296 := fun x => by
        rw [HK.out]
        have h := leastM_bd ts k x
        have h6 : (6 : Int) ^ k ≤ 1296 := by
          have : k = 0 ∨ k = 1 ∨ k = 2 ∨ k = 3 := by omega
          rcases this with rfl | rfl | rfl | rfl <;> decide
        omega
      have hBs := hmap.lt
      rename World => wo
      have hki : (k : Int) < 4 := by omega
      have hd4 : decide ((k : Int) < 4) = true := by simp; omega
      go_wp2
      have Hk4 := hide hk4
      clear hk4
      go_loopw [22] (fun i wr => ∃ j : Nat, j ≤ ts.length ∧ i = .int .i64 j ∧ MapIs wr wo.heap.size (2 * j) (nextM K ts j) ∧ MapIs wr B nB g ∧ Ext W0 wr) (fun i _ => ts.length - (intOf i).toNat)
      case atStart => exact ⟨0, by omega, rfl, by rw [nextM_zero]; exact MapIs.made _, hmap.alloc _, hx.alloc _⟩
      case round =>
        obtain ⟨j, hj, rfl, hnext, hknow, hx2⟩ := hrel
        rename World => wj
        have cS2 : wj.cell? ⟨w.heap.size, 0, none⟩ = some (.slice a ts.length cap) := cell_of_row _ _ 0 _ _ _ (hx2.heap r0)
        have hE2 := hx0.trans hx2
        have hBn : wo.heap.size < wj.heap.size := hnext.lt
        by_cases hlt : j < ts.length
        · obtain ⟨b, o, cs, ea, hr, tv, rfl, htv⟩ := (unhide Hs).2 j ts[j] (by simp [hlt])
          simp only at ea
          subst ea
          obtain ⟨c0, c1, c2, c3, c4⟩ := range5 (hE2.range hr)
          have hsm := (unhide Hn).2 ts[j] (List.getElem_mem hlt)
          obtain ⟨t, ht⟩ : ∃ t, t = ts[j] := ⟨_, rfl⟩
          rw [← ht] at htv hsm
          obtain ⟨nm, en, ⟨fa, fl, fc⟩, gs, is⟩ := tv
          have enm := htv.name
          have een := htv.enum
          have efl := htv.fields.1
          have hfs := htv.fields
          simp only at enm een efl hfs c0 c1 c2 c3 c4
          subst efl
          have hnl : nm.size ≤ 1048576 := by rw [enm]; exact hsm.name
          have hkt := key9 hnl
          have hfl := hsm.fields
          have Hft : Hid (∀ x ∈ t.fields, x.type.size ≤ 1048576) := fun x hx => (hsm.fname x hx).2
          have HtN := hide enm
          have HtE := hide een
          have Ht := hide ht
          clear htv hr hsm enm een ht
          obtain ⟨Dn, hown2, hDn⟩ := hnext
          have hat1 := (hDn nm).2
          have HDn := hide hDn
          clear hDn
          have hhas : Maps.has Dn (klOf nm) = (nextM K ts j nm).isSome := hat1
          clear hat1
          cases hss : (nextM K ts j nm).isSome
          · rw [hss] at hhas
            have Hss := hide hss
            clear hss
            have hset : Hid (nextM K ts (j + 1) = setAt (nextM K ts j) nm (valR K t)) := by
              unfold Hid
              rw [nextM_set hlt (by rw [← unhide Ht, ← unhide HtN]; exact unhide Hss), ← unhide Ht, ← unhide HtN]
            have hmapN : MapIs wj wo.heap.size (2 * j) (nextM K ts j) := ⟨Dn, hown2, unhide HDn⟩
            have HmapN := hide hmapN
            have Hknow := hide hknow
            have hjm : 2 * j < maxLen := by unfold maxLen; omega
            have hgne : wj.heap.size ≠ wo.heap.size := by omega
            clear hmapN hknow
            cases en
            all_goals
              go_wp2_with (first
                | (at_lookup; refine wpList_lookup_own_ok_int _ rfl _ _ 101 rfl 9 3 .i64 law9 Tryz.underlying101 Tryz.underlying3 (zero3 _) wo.heap.size (2 * j) _ rfl (hown2.alloc _) _ _ rfl hkt ?_; intro c hat hwc; clear hat hwc; rw [hhas])
                | go_in)
              go_quiet (fail)
              go_wp2
              clear hown2 hhas c0 c1 c2 c3 c4
              go_loopw [11, 12, 46] (fun n e i wr => ∃ (q : Nat) (acc : Int) (eb : Bool), q ≤ t.fields.length ∧ i = .int .i64 q ∧ n = .int .i64 acc ∧ e = .bool eb ∧ 0 ≤ acc ∧ acc ≤ 1 + q * 1296 ∧ roundN K t.fields 1 = roundN K (t.fields.drop q) acc ∧ ((!t.enum && decide (t.fields.length < 6)) && roundE K t.fields) = (eb && roundE K (t.fields.drop q)) ∧ Ext wj wr ∧ wr.cell? ⟨wj.heap.size, 0, none⟩ = some (.string nm) ∧ wj.heap.size < wr.heap.size) (fun _ _ i _ => t.fields.length - (intOf i).toNat)
              case atStart =>
                refine ⟨0, 1, _, by omega, rfl, rfl, rfl, by omega, by omega, rfl, ?_, ((Ext.refl wj).alloc _).drewN _, ?_, by simp⟩
                · first | (rw [← unhide HtE, dec6]; rfl) | (rw [← unhide HtE]; rfl)
                · exact cell_of_row _ _ 0 _ _ _ (heap_alloc_new wj _)
              case round =>
                obtain ⟨q, acc, eb, hq, rfl, rfl, rfl, ha0, ha1, hN, hEE, hx3, cT, hzT⟩ := hrel
                have HN := hide hN
                have HEE := hide hEE
                clear hN hEE
                by_cases hlq : q < t.fields.length
                · obtain ⟨b', o', cs', ea', hr', rfl⟩ := hfs.2 q t.fields[q] (by simp [hlq])
                  simp only at ea'
                  subst ea'
                  obtain ⟨d0, d1, d2, d3, d4⟩ := range5 (hx3.range (hE2.range hr'))
                  have Hdn := hide (roundN_drop (K := K) (acc := acc) hlq)
                  have Hde := hide (roundE_drop (K := K) hlq)
                  have hft := unhide Hft t.fields[q] (List.getElem_mem hlq)
                  have hKq := hKb t.fields[q].type
                  clear hr'
                  generalize t.fields[q] = f at *
                  by_cases hr1 : f.rule = 1
                  · by_cases hk5 : f.kind = 5
                    · have hkf := key9 hft
                      obtain ⟨DK, hownK, hDK⟩ := (unhide Hknow).ext hx3
                      have HDK := hide (hDK f.type).1
                      have Hr1 := hide hr1
                      have Hk5 := hide hk5
                      clear hDK
                      have HKf : Hid (∀ c : Int, DK.atKey (klOf f.type) (.lit (.int .i64 0)) = .lit (.int .i64 c) → c = K f.type) := fun c hc => by
                        rw [unhide HKg]; exact lit_inj (hc.symm.trans (unhide HDK))
                      have hrun : ∀ ob : Obj, (Instr.lookup 101 (.map (some B)) (.string f.type) false).run Tryz.prog (wr.alloc ob) = .ok (.int .i64 (K f.type)) (wr.alloc ob) := fun ob => by
                        obtain ⟨c, h1, h2, _⟩ := (hownK.alloc ob).lookup_int law9 Tryz.underlying101 Tryz.underlying3 (zero3 _) hkf
                        rw [unhide HKf c h2] at h1
                        exact h1
                      clear hownK
                      cases eb
                      · go_wp2
                        go_roundw
                        case rel => exact ⟨q + 1, acc + K f.type, false, by omega, by go_num, rfl, rfl, by omega, by omega, (unhide HN).trans (by rw [unhide Hdn, if_neg (by simp [unhide Hr1]), if_neg (by simp [unhide Hk5])]), (unhide HEE).trans rfl, hx3.alloc _, ((Ext.refl wr).alloc _).cell cT, by simp; omega⟩
                        case measure => simp [intOf]; omega
                      · go_wp2
                        go_roundw
                        case rel => exact ⟨q + 1, acc + K f.type, decide (0 < K f.type), by omega, by go_num, rfl, rfl, by omega, by omega, (unhide HN).trans (by rw [unhide Hdn, if_neg (by simp [unhide Hr1]), if_neg (by simp [unhide Hk5])]), (unhide HEE).trans (by rw [unhide Hde, unhide Hr1, unhide Hk5]; simp), hx3.alloc _, ((Ext.refl wr).alloc _).cell cT, by simp; omega⟩
                        case measure => simp [intOf]; omega
                    · have Hr1 := hide hr1
                      have Hk5 := hide hk5
                      go_wp2
                      go_roundw
                      case rel => exact ⟨q + 1, acc + 1, eb, by omega, by go_num, rfl, rfl, by omega, by omega, (unhide HN).trans (by rw [unhide Hdn, if_neg (by simp [unhide Hr1]), if_pos (unhide Hk5)]), step_and (unhide HEE) (by rw [unhide Hde]; simp [unhide Hk5]), hx3.alloc _, ((Ext.refl wr).alloc _).cell cT, by simp; omega⟩
                      case measure => simp [intOf]; omega
                  · have Hr1 := hide hr1
                    go_wp2
                    go_roundw
                    case rel => exact ⟨q + 1, acc, eb, by omega, by go_num, rfl, rfl, by omega, by omega, (unhide HN).trans (by rw [unhide Hdn, if_pos (unhide Hr1)]), step_and (unhide HEE) (by rw [unhide Hde]; simp [unhide Hr1]), hx3.alloc _, ((Ext.refl wr).alloc _).cell cT, by simp; omega⟩
                    case measure => simp [intOf]; omega
                · have eq : q = t.fields.length := by omega
                  have HV := hide (val_of (K := K) (t := t) (en := eb) ((unhide HEE).trans (by rw [eq, List.drop_length]; simp [roundE])))
                  have HA : Hid (roundN K t.fields 1 = acc) := (unhide HN).trans (by rw [eq, List.drop_length]; rfl)
                  obtain ⟨Dn3, hown3, hDn3⟩ := (unhide HmapN).ext hx3
                  have HD3 := hide hDn3
                  have hmap0 := hown3.isMap
                  have hw0 : (Lit.int .i64 (0 : Int)).wf = true := by decide
                  have hwa : (Lit.int .i64 acc).wf = true := wf_small ha0 (by omega)
                  have hjm1 : 2 * j + 1 < maxLen := by unfold maxLen; omega
                  clear hDn3
                  cases eb
                  · go_wp2_with (first
                      | (at_mapUpdate; refine wpList_mapUpdate_own _ rfl _ _ _ 101 rfl 9 3 law9 Tryz.underlying101 _ wo.heap.size (2 * j) _ rfl hown3 hjm _ _ _ rfl rfl hkt _ [] (plainElem_int Tryz.underlying3 hw0) ?_; intro w4 hown4 hgrow4)
                      | go_in)
                    go_roundw
                    case rel =>
                      refine ⟨j + 1, by omega, by go_num, ?_, ((unhide Hknow).ext hx3).kept hgrow4 (by simp; omega), (hx2.trans hx3).grown hgrow4 (fun z hz => by cases hz; omega)⟩
                      rw [hset.out, unhide HV]
                      exact (MapIs.put hmap0 (unhide HD3) hown4).mono (by omega)
                    case measure => simp [intOf]; omega
                  · go_wp2_with (first
                      | (at_mapUpdate; refine wpList_mapUpdate_own _ rfl _ _ _ 101 rfl 9 3 law9 Tryz.underlying101 _ wo.heap.size (2 * j + 1) _ rfl hown4 hjm1 _ _ _ rfl rfl hkt _ [] (plainElem_int Tryz.underlying3 hwa) ?_; intro w5 hown5 hgrow5)
                      | (at_mapUpdate; refine wpList_mapUpdate_own _ rfl _ _ _ 101 rfl 9 3 law9 Tryz.underlying101 _ wo.heap.size (2 * j) _ rfl hown3 hjm _ _ _ rfl rfl hkt _ [] (plainElem_int Tryz.underlying3 hw0) ?_; intro w4 hown4 hgrow4; have cT4 := grown_cell hgrow4 cT hgne)
                      | go_in)
                    go_roundw
                    case rel =>
                      refine ⟨j + 1, by omega, by go_num, ?_, (((unhide Hknow).ext hx3).kept hgrow4 (by simp; omega)).kept hgrow5 (by simp; omega), ((hx2.trans hx3).grown hgrow4 (fun z hz => by cases hz; omega)).grown hgrow5 (fun z hz => by cases hz; omega)⟩
                      rw [hset.out, unhide HV, if_pos rfl, unhide HA, ← setAt_twice _ nm 0]
                      exact MapIs.put (hmap0.put _ _) (put_tells hmap0 (unhide HD3) nm 0) hown5
                    case measure => simp [intOf]; omega
          · rw [hss] at hhas
            have Hss := hide hss
            clear hss
            go_wp2_with (first
              | (at_lookup; refine wpList_lookup_own_ok_int _ rfl _ _ 101 rfl 9 3 .i64 law9 Tryz.underlying101 Tryz.underlying3 (zero3 _) wo.heap.size (2 * j) _ rfl (hown2.alloc _) _ _ rfl hkt ?_; intro c hat hwc; clear hat; rw [hhas])
              | go_in)
            have Hsk : nextM K ts (j + 1) = nextM K ts j := nextM_skip hlt (by rw [← unhide Ht, ← unhide HtN]; exact unhide Hss)
            go_roundw
            case rel => exact ⟨j + 1, by omega, by go_num, by rw [Hsk]; exact (MapIs.mono ⟨Dn, hown2, unhide HDn⟩ (by omega)).alloc _, hknow.alloc _, hx2.alloc _⟩
            case measure => simp [intOf]; omega
        · have ej : j = ts.length := by omega
          go_wp2
          have hk4 := unhide Hk4
          exact ⟨⟨k + 1, wo.heap.size, 2 * j, nextM K ts j, by omega, by go_num, rfl, by omega, hnext, fun x => by rw [← nextM_all K ts k HK.out j (by omega)], hx2⟩, by simp [intOf]; omega⟩
    · have e4 : k = 4 := by omega
      subst e4
      obtain ⟨D, hown, hD⟩ := hmap
      have HD := hide (hD name).1
      have Hg := hide (hg name)
      clear hD hg
      go_wp2_with (first
        | (at_lookup; refine wpList_lookup_own_int _ rfl _ _ 101 rfl 9 3 .i64 law9 Tryz.underlying101 Tryz.underlying3 (zero3 _) B nB _ rfl hown _ _ rfl hkn ?_; intro c hat hwc)
        | go_in)
      have hc : c = leastM ts 4 name := by
        rw [← unhide Hg]; exact lit_inj (hat.symm.trans (unhide HD))
      clear hat
      go_ret
      exact ⟨ret_int hc, hE⟩
end Go.Proofs.YtmdpdgldmedebaaGreatDoor

