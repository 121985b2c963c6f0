import Derived.Test.YtgobejbboeeieaaB6
namespace Go.Proofs.Ytgobejbboeeieaa
set_option linter.unusedSimpArgs false
set_option linter.unusedVariables false
open Go.RowKit

theorem drop_drop' (L : List UInt8) (i j : Nat) : (L.drop i).drop j = L.drop (i + j) := by rw [List.drop_drop]
theorem unfold_even {x : Nat} (h : x % 2 = 0) : unfoldN x = ((x / 2 : Nat) : Int) := by
  unfold unfoldN; rw [if_neg (by omega)]; omega
theorem unfold_odd {x : Nat} (h : x % 2 = 1) : unfoldN x = -((x : Int) + 1) / 2 := by
  unfold unfoldN; rw [if_pos h]; omega

set_option maxHeartbeats 6400000 in
set_option maxRecDepth 10000 in
theorem decodeParts_any (s : ByteArray) (w : World) (hs : s.size ≤ 9223372036854775807) :
    Calls Try.prog 13 #[.string s] w fun e w' => ∃ sv : SV, e = .returned (.tuple #[.slice sv.a sv.len sv.cap, .int .i64 (decE s.data.toList)]) ∧ PartsAt w' sv (decL s.data.toList) ∧ sv.ok ∧ Ext w w' := by
  have hl := bytes_len s
  by_cases hlong : 20000 < s.size
  · obtain ⟨e1, e2⟩ := decE_long (l := s.data.toList) (by omega)
    rw [e1, e2]
    go_enter Try.func13, Try.ntmps13
    go_wp2
    go_ret2
    exact ⟨⟨none, 0, 0⟩, rfl, nil_parts _, nil_ok, Ext.refl _⟩
  · go_enter Try.func13, Try.ntmps13
    go_wp2
    go_loopw [4, 5] (fun o i wr => ∃ (k : Nat) (m : List PartM), i = .int .i64 k ∧ k ≤ s.size ∧ m.length ≤ k ∧ wr.ownsRow w.heap.size 27 4 o m.length (m.flatMap PartM.cells) ∧ decR s.size s.data.toList = (decR (s.size - k) (s.data.toList.drop k)).map (m ++ ·) ∧ Ext w wr) (fun _ i _ => s.size - (intOf i).toNat)
    case atStart => exact ⟨0, [], rfl, by omega, by simp, World.ownsRow_nil _ _ _ _, by simp, Ext.refl _⟩
    case round =>
      obtain ⟨k, m, rfl, hk, hmk, ho, hE, hx⟩ := hrel
      have HE := hide hE
      clear hE
      by_cases hlt : k < s.size
      · have hsz1 : (s.extract k s.size).size = s.size - k := size_extract_end s k
        have hd1 := hide (extract_end s k)
        go_wp2_with fail
        refine (seven_any (s.extract k s.size) _ (by omega)).mono ?_
        rintro e w1 ⟨hd, c1, rfl, hcut1, hx1⟩
        rw [hsz1, unhide hd1] at hcut1
        rcases hcut1 with ⟨rfl, hc1⟩ | ⟨hc11, hc12, hc1⟩
        · have e : Hid (decR s.data.toList.length s.data.toList = none) := by
            unfold Hid
            rw [hl, unhide HE, decR_at_no hl hlt (.inl (cutP_no1 hc1))]; rfl
          clear hc1
          go_wp2
          go_ret2
          obtain ⟨e1, e2⟩ := decE_none (by omega) (unhide e)
          rw [e1, e2]
          exact ⟨⟨none, 0, 0⟩, rfl, nil_parts _, nil_ok, hx.trans hx1⟩
        · have hsz2 : (s.extract (k + c1) s.size).size = s.size - (k + c1) := size_extract_end s (k + c1)
          have hd2 := hide (extract_end s (k + c1))
          rw [drop_drop'] at hc1
          have H1 := hide hc1
          have hhd := (sev_cut _ _ _ _ _ hc1).2.1
          rw [show (128 : Nat) ^ 6 = 4398046511104 by decide] at hhd
          clear hc1
          go_wp2_with fail
          refine (seven_any (s.extract (k + c1) s.size) _ (by omega)).mono ?_
          rintro e w2 ⟨x, c2, rfl, hcut2, hx2⟩
          have hx02 := hx1.trans hx2
          rw [hsz2, unhide hd2] at hcut2
          rcases hcut2 with ⟨rfl, hc2⟩ | ⟨hc21, hc22, hc2⟩
          · have e : Hid (decR s.data.toList.length s.data.toList = none) := by
              unfold Hid
              rw [hl, unhide HE, decR_at_no hl hlt (.inl (cutP_no2 (unhide H1) hc2))]; rfl
            clear hc2
            go_wp2
            go_ret2
            obtain ⟨e1, e2⟩ := decE_none (by omega) (unhide e)
            rw [e1, e2]
            exact ⟨⟨none, 0, 0⟩, rfl, nil_parts _, nil_ok, hx.trans hx02⟩
          · rw [drop_drop'] at hc2
            have H2 := hide hc2
            have hxx := (sev_cut _ _ _ _ _ hc2).2.1
            rw [show (128 : Nat) ^ 6 = 4398046511104 by decide] at hxx
            clear hc2
            obtain ⟨A, hA⟩ : ∃ A, k + c1 + c2 = A := ⟨_, rfl⟩
            have hAi : (k : Int) + ((c1 : Int) + (c2 : Int)) = (A : Int) := by omega
            have hAs : A ≤ s.size := by omega
            have hkA : k < A := by omega
            rw [hA] at H2
            obtain ⟨i, hi⟩ : ∃ i : Nat, hd / 4 = i := ⟨_, rfl⟩
            obtain ⟨kd, hkd⟩ : ∃ k : Nat, hd % 4 = k := ⟨_, rfl⟩
            have hii : (hd : Int) / 4 = (i : Int) := by omega
            have hki : (hd : Int) % 4 = (kd : Int) := by omega
            have hk3 : kd ≤ 3 := by omega
            have hi3 : i < 4398046511104 := by omega
            have Hi := hide hi
            have Hkd := hide hkd
            have HA := hide hA
            clear hi hkd hA
            by_cases hkz : kd = 0
            · subst hkz
              have HP := hide (cutP_num (unhide H1) (unhide H2) (unhide Hkd))
              rw [unhide Hi] at HP
              by_cases hev : x % 2 = 0
              · have hxe : (x : Int) % 2 = 0 := by omega
                have hpn := unfold_even hev
                obtain ⟨y, hy⟩ : ∃ y : Nat, x / 2 = y := ⟨_, rfl⟩
                have hyi : (x : Int) / 2 = (y : Int) := by omega
                rw [hpn, hy] at HP
                clear hpn hy hev
                obtain ⟨gb, hg⟩ : ∃ gb, goodB ⟨(i : Nat), 0, (y : Nat), ⟨#[]⟩⟩ = gb := ⟨_, rfl⟩
                have hxB : Ext w2 (w2.alloc (.cells #[.int .i64 (i : Nat), .int .i64 0, .int .i64 (y : Nat), .string ⟨#[]⟩] 27)) := (Ext.refl _).alloc _
                have hB := heap_alloc_new w2 (.cells #[.int .i64 (i : Nat), .int .i64 0, .int .i64 (y : Nat), .string ⟨#[]⟩] 27)
                have Hip := hide (isPart_any ⟨(i : Nat), 0, (y : Nat), ⟨#[]⟩⟩ (w2.alloc (.cells #[.int .i64 (i : Nat), .int .i64 0, .int .i64 (y : Nat), .string ⟨#[]⟩] 27)) (Nat.zero_le _))
                rw [hg] at Hip
                go_wp2_with fail
                refine (unhide Hip).mono ?_
                rintro e w5 ⟨rfl, hx5⟩
                have hB5 := hx5.heap hB
                have hx05 : Ext wr w5 := (hx02.trans hxB).trans hx5
                cases gb
                · have e : Hid (decR s.data.toList.length s.data.toList = none) := by
                    unfold Hid
                    rw [hl, unhide HE, decR_at_no hl hlt (.inr ⟨_, _, unhide HP, hg⟩)]; rfl
                  go_wp2
                  go_ret2
                  obtain ⟨e1, e2⟩ := decE_none (by omega) (unhide e)
                  rw [e1, e2]
                  exact ⟨⟨none, 0, 0⟩, rfl, nil_parts _, nil_ok, hx.trans hx05⟩
                · have e : Hid (decR s.size s.data.toList = (decR (s.size - (A)) (s.data.toList.drop (A))).map ((m ++ [⟨(i : Nat), 0, (y : Nat), ⟨#[]⟩⟩]) ++ ·)) := by
                    unfold Hid
                    rw [unhide HE, decR_at hl hlt hAs (unhide HP) hg, Option.map_map]
                    congr 1
                    funext q
                    simp
                  have ho2 := owns_ext ho hx05
                  have hz2 : w.heap.size ≤ w5.heap.size := (hx.trans hx05).size
                  have Hml : Hid (m.length < 1048576) := by unfold Hid; omega
                  obtain ⟨d0, d1, d2, d3, df⟩ := row4 hB5
                  go_wp2_with (at_builtin; refine wpList_app1 _ _ 22 27 (.agg #[.int .i64 0, .int .i64 0, .int .i64 0, .string ⟨#[]⟩]) 4 40 Try.underlying22 info27 rfl (by decide) (by decide) rfl rfl w.heap.size _ m.length _ rfl (ho2.alloc _) w5.heap.size 1 (PartM.cells ⟨(i : Nat), 0, (y : Nat), ⟨#[]⟩⟩) rfl rfl ?c1 ?c2 ?c3 ?c4 ?_)
                  case c1 => exact range_of_new4 _ _ _ _ _ _ (by simp)
                  case c2 => exact one_part ⟨(i : Nat), 0, (y : Nat), ⟨#[]⟩⟩
                  case c3 => exact Hml
                  case c4 => simp; omega
                  intro v6 w6 ho6 hg6
                  have ho6' : w6.ownsRow w.heap.size 27 4 v6 (m ++ [(⟨(i : Nat), 0, (y : Nat), ⟨#[]⟩⟩ : PartM)]).length ((m ++ [(⟨(i : Nat), 0, (y : Nat), ⟨#[]⟩⟩ : PartM)]).flatMap PartM.cells) := by
                    rw [List.length_append, List.length_singleton, List.flatMap_append]
                    simpa using ho6
                  have hx6 : Ext w w6 := Ext.owned ((hx.trans hx05).alloc _) hg6 (ho2.alloc _) (Nat.le_refl _)
                  go_wp2
                  go_roundw
                  case rel => exact ⟨A, m ++ [(⟨(i : Nat), 0, (y : Nat), ⟨#[]⟩⟩ : PartM)], by go_num, hAs, by simp; omega, ho6', unhide e, hx6⟩
                  case measure => simp [intOf]; omega
              · have hxo : (x : Int) % 2 = 1 := by omega
                have hpn := unfold_odd (x := x) (by omega)
                obtain ⟨z, hz⟩ : ∃ z : Int, -((x : Int) + 1) / 2 = z := ⟨_, rfl⟩
                have hzt : (-((x : Int) + 1)).tdiv 2 = z := by
                  rw [← hz, Int.neg_tdiv, Int.tdiv_eq_ediv_of_nonneg (by omega)]; omega
                have hz1 : -4398046511104 ≤ z := by omega
                have hz2 : z ≤ 4398046511104 := by omega
                rw [hpn, hz] at HP
                clear hpn hz hev
                obtain ⟨gb, hg⟩ : ∃ gb, goodB ⟨(i : Nat), 0, z, ⟨#[]⟩⟩ = gb := ⟨_, rfl⟩
                have hxB : Ext w2 (w2.alloc (.cells #[.int .i64 (i : Nat), .int .i64 0, .int .i64 z, .string ⟨#[]⟩] 27)) := (Ext.refl _).alloc _
                have hB := heap_alloc_new w2 (.cells #[.int .i64 (i : Nat), .int .i64 0, .int .i64 z, .string ⟨#[]⟩] 27)
                have Hip := hide (isPart_any ⟨(i : Nat), 0, z, ⟨#[]⟩⟩ (w2.alloc (.cells #[.int .i64 (i : Nat), .int .i64 0, .int .i64 z, .string ⟨#[]⟩] 27)) (Nat.zero_le _))
                rw [hg] at Hip
                go_wp2_with fail
                refine (unhide Hip).mono ?_
                rintro e w5 ⟨rfl, hx5⟩
                have hB5 := hx5.heap hB
                have hx05 : Ext wr w5 := (hx02.trans hxB).trans hx5
                cases gb
                · have e : Hid (decR s.data.toList.length s.data.toList = none) := by
                    unfold Hid
                    rw [hl, unhide HE, decR_at_no hl hlt (.inr ⟨_, _, unhide HP, hg⟩)]; rfl
                  go_wp2
                  go_ret2
                  obtain ⟨e1, e2⟩ := decE_none (by omega) (unhide e)
                  rw [e1, e2]
                  exact ⟨⟨none, 0, 0⟩, rfl, nil_parts _, nil_ok, hx.trans hx05⟩
                · have e : Hid (decR s.size s.data.toList = (decR (s.size - (A)) (s.data.toList.drop (A))).map ((m ++ [⟨(i : Nat), 0, z, ⟨#[]⟩⟩]) ++ ·)) := by
                    unfold Hid
                    rw [unhide HE, decR_at hl hlt hAs (unhide HP) hg, Option.map_map]
                    congr 1
                    funext q
                    simp
                  have ho2 := owns_ext ho hx05
                  have hz2 : w.heap.size ≤ w5.heap.size := (hx.trans hx05).size
                  have Hml : Hid (m.length < 1048576) := by unfold Hid; omega
                  obtain ⟨d0, d1, d2, d3, df⟩ := row4 hB5
                  go_wp2_with (at_builtin; refine wpList_app1 _ _ 22 27 (.agg #[.int .i64 0, .int .i64 0, .int .i64 0, .string ⟨#[]⟩]) 4 40 Try.underlying22 info27 rfl (by decide) (by decide) rfl rfl w.heap.size _ m.length _ rfl (ho2.alloc _) w5.heap.size 1 (PartM.cells ⟨(i : Nat), 0, z, ⟨#[]⟩⟩) rfl rfl ?c1 ?c2 ?c3 ?c4 ?_)
                  case c1 => exact range_of_new4 _ _ _ _ _ _ (by simp)
                  case c2 => exact one_part ⟨(i : Nat), 0, z, ⟨#[]⟩⟩
                  case c3 => exact Hml
                  case c4 => simp; omega
                  intro v6 w6 ho6 hg6
                  have ho6' : w6.ownsRow w.heap.size 27 4 v6 (m ++ [(⟨(i : Nat), 0, z, ⟨#[]⟩⟩ : PartM)]).length ((m ++ [(⟨(i : Nat), 0, z, ⟨#[]⟩⟩ : PartM)]).flatMap PartM.cells) := by
                    rw [List.length_append, List.length_singleton, List.flatMap_append]
                    simpa using ho6
                  have hx6 : Ext w w6 := Ext.owned ((hx.trans hx05).alloc _) hg6 (ho2.alloc _) (Nat.le_refl _)
                  go_wp2
                  go_roundw
                  case rel => exact ⟨A, m ++ [(⟨(i : Nat), 0, z, ⟨#[]⟩⟩ : PartM)], by go_num, hAs, by simp; omega, ho6', unhide e, hx6⟩
                  case measure => simp [intOf]; omega
            · have HP1 := fun hl => hide (cutP_long (unhide H1) (unhide H2) (by rw [unhide Hkd]; exact hkz) hl)
              have HP2 := fun hl => hide (cutP_text (unhide H1) (unhide H2) (by rw [unhide Hkd]; exact hkz) hl)
              rw [List.length_drop, hl] at HP1 HP2
              by_cases hlx : s.size - A < x
              · have HP := HP1 hlx
                clear HP1 HP2
                have e : Hid (decR s.data.toList.length s.data.toList = none) := by
                  unfold Hid
                  rw [hl, unhide HE, decR_at_no hl hlt (.inl (unhide HP))]; rfl
                go_wp2
                go_ret2
                obtain ⟨e1, e2⟩ := decE_none (by omega) (unhide e)
                rw [e1, e2]
                exact ⟨⟨none, 0, 0⟩, rfl, nil_parts _, nil_ok, hx.trans (hx02.alloc _)⟩
              · have HP := HP2 hlx
                clear HP1 HP2
                have hAx : A + x ≤ s.size := by omega
                have hex : (⟨((s.data.toList.drop A).take x).toArray⟩ : ByteArray) = s.extract A (A + x) := by
                  apply bytes_ext
                  rw [extract_data]; simp
                rw [drop_drop', unhide Hi, unhide Hkd, hex] at HP
                have hexs : (s.extract A (A + x)).size ≤ 9223372036854775807 := by
                  rw [← bytes_len, extract_data, List.length_take]; omega
                clear hex
                have hslc : ∀ u : World, (Instr.slice 9 (.string s) (some (.int .i64 (A : Int))) (some (.int .i64 ((A : Int) + (x : Int)))) none).run Try.prog u = .ok (.string (s.extract A (A + x))) u := fun u => by
                  have h := run_slice_string (P := Try.prog) (w := u) 9 s .i64 .i64 (A : Int) ((A : Int) + (x : Int)) Try.underlying9 (by omega) (by omega) (by omega)
                  have e1 : ((A : Int)).toNat = A := by omega
                  have e2 : ((A : Int) + (x : Int)).toNat = A + x := by omega
                  rw [e1, e2] at h
                  exact h
                obtain ⟨gb, hg⟩ : ∃ gb, goodB ⟨(i : Nat), (kd : Nat), 0, s.extract A (A + x)⟩ = gb := ⟨_, rfl⟩
                have hxB : Ext w2 (w2.alloc (.cells #[.int .i64 (i : Nat), .int .i64 (kd : Nat), .int .i64 0, .string (s.extract A (A + x))] 27)) := (Ext.refl _).alloc _
                have hB := heap_alloc_new w2 (.cells #[.int .i64 (i : Nat), .int .i64 (kd : Nat), .int .i64 0, .string (s.extract A (A + x))] 27)
                have Hip := hide (isPart_any ⟨(i : Nat), (kd : Nat), 0, s.extract A (A + x)⟩ (w2.alloc (.cells #[.int .i64 (i : Nat), .int .i64 (kd : Nat), .int .i64 0, .string (s.extract A (A + x))] 27)) hexs)
                rw [hg] at Hip
                go_wp2_with fail
                refine (unhide Hip).mono ?_
                rintro e w5 ⟨rfl, hx5⟩
                have hB5 := hx5.heap hB
                have hx05 : Ext wr w5 := (hx02.trans hxB).trans hx5
                cases gb
                · have e : Hid (decR s.data.toList.length s.data.toList = none) := by
                    unfold Hid
                    rw [hl, unhide HE, decR_at_no hl hlt (.inr ⟨_, _, unhide HP, hg⟩)]; rfl
                  go_wp2
                  go_ret2
                  obtain ⟨e1, e2⟩ := decE_none (by omega) (unhide e)
                  rw [e1, e2]
                  exact ⟨⟨none, 0, 0⟩, rfl, nil_parts _, nil_ok, hx.trans hx05⟩
                · have e : Hid (decR s.size s.data.toList = (decR (s.size - (A + x)) (s.data.toList.drop (A + x))).map ((m ++ [⟨(i : Nat), (kd : Nat), 0, s.extract A (A + x)⟩]) ++ ·)) := by
                    unfold Hid
                    rw [unhide HE, decR_at hl hlt hAx (unhide HP) hg, Option.map_map]
                    congr 1
                    funext q
                    simp
                  have ho2 := owns_ext ho hx05
                  have hz2 : w.heap.size ≤ w5.heap.size := (hx.trans hx05).size
                  have Hml : Hid (m.length < 1048576) := by unfold Hid; omega
                  obtain ⟨d0, d1, d2, d3, df⟩ := row4 hB5
                  go_wp2_with (at_builtin; refine wpList_app1 _ _ 22 27 (.agg #[.int .i64 0, .int .i64 0, .int .i64 0, .string ⟨#[]⟩]) 4 40 Try.underlying22 info27 rfl (by decide) (by decide) rfl rfl w.heap.size _ m.length _ rfl (ho2.alloc _) w5.heap.size 1 (PartM.cells ⟨(i : Nat), (kd : Nat), 0, s.extract A (A + x)⟩) rfl rfl ?c1 ?c2 ?c3 ?c4 ?_)
                  case c1 => exact range_of_new4 _ _ _ _ _ _ (by simp)
                  case c2 => exact one_part ⟨(i : Nat), (kd : Nat), 0, s.extract A (A + x)⟩
                  case c3 => exact Hml
                  case c4 => simp; omega
                  intro v6 w6 ho6 hg6
                  have ho6' : w6.ownsRow w.heap.size 27 4 v6 (m ++ [(⟨(i : Nat), (kd : Nat), 0, s.extract A (A + x)⟩ : PartM)]).length ((m ++ [(⟨(i : Nat), (kd : Nat), 0, s.extract A (A + x)⟩ : PartM)]).flatMap PartM.cells) := by
                    rw [List.length_append, List.length_singleton, List.flatMap_append]
                    simpa using ho6
                  have hx6 : Ext w w6 := Ext.owned ((hx.trans hx05).alloc _) hg6 (ho2.alloc _) (Nat.le_refl _)
                  go_wp2
                  go_roundw
                  case rel => exact ⟨A + x, m ++ [(⟨(i : Nat), (kd : Nat), 0, s.extract A (A + x)⟩ : PartM)], by go_num, hAx, by simp; omega, ho6', unhide e, hx6⟩
                  case measure => simp [intOf]; omega
      · have e : Hid (decR s.data.toList.length s.data.toList = some m) := by
          unfold Hid
          rw [hl, unhide HE, List.drop_of_length_le (by omega)]
          simp [decR]
        obtain ⟨sv, rfl, hsl⟩ := sliceAt_of_owns PartM.cells (fun _ => rfl) ho rfl
        go_wp2
        go_ret2
        obtain ⟨e1, e2⟩ := decE_some (by omega) (unhide e)
        rw [e1, e2]
        exact ⟨sv, rfl, hsl, ok_of_owns ho, hx⟩
end Go.Proofs.Ytgobejbboeeieaa
