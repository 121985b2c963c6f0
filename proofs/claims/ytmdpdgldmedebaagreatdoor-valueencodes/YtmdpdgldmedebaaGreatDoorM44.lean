import Derived.Test.YtmdpdgldmedebaaGreatDoorM43
namespace Go.Proofs.YtmdpdgldmedebaaGreatDoor
set_option linter.unusedSimpArgs false
set_option linter.unusedVariables false
set_option linter.unusedSimpArgs false
set_option linter.unusedVariables false
open Go.RowKit

theorem info27 : (Tryz.prog.info? 85).map (fun i => (i.zero, i.size, i.bytes)) = some (some (.agg #[.int .i64 0, .int .i64 0, .int .i64 0, .string ⟨#[]⟩]), 4, 40) := by kernel_rfl
end Go.Proofs.YtmdpdgldmedebaaGreatDoor

namespace Go.Proofs.YtmdpdgldmedebaaGreatDoor
set_option linter.unusedSimpArgs false
set_option linter.unusedVariables false
open Go.RowKit

set_option maxHeartbeats 3200000 in
set_option maxRecDepth 10000 in
theorem isPart_any (p : PartM) (w : World) (hs : p.s.size ≤ 9223372036854775807) :
    Calls Tryz.prog 79 #[.agg #[.int .i64 p.id, .int .i64 p.kind, .int .i64 p.n, .string p.s]] w fun e w' => e = .returned (.bool (goodB p)) ∧ Ext w w' := by
  obtain ⟨id, kind, n, s⟩ := p
  simp only at hs
  by_cases h0 : id < 1 ∨ 30 < id ∨ 1099511627776 < n ∨ n < -1099511627776 ∨ 20000 < (s.size : Int)
  · have hb : goodB ⟨id, kind, n, s⟩ = false := by
      rw [goodB_false]
      rintro ⟨h1, h2, h3⟩
      simp only at h1 h2 h3
      rcases h3 with ⟨_, h3, h4, rfl⟩ | ⟨_, h3, h4⟩
      · have : (ByteArray.mk #[]).size = 0 := rfl
        omega
      · omega
    rw [hb]
    go_enter Tryz.func79, Tryz.ntmps79
    go_wp2
    all_goals first | (exfalso; omega) | skip
    all_goals go_ret
    all_goals exact ⟨rfl, (Ext.refl _).alloc _⟩
  · have h1 : 1 ≤ id := by omega
    have h2 : id ≤ 30 := by omega
    have h3 : n ≤ 1099511627776 := by omega
    have h4 : -1099511627776 ≤ n := by omega
    have h5 : (s.size : Int) ≤ 20000 := by omega
    clear h0
    go_enter Tryz.func79, Tryz.ntmps79
    go_wp2
    all_goals go_ret
    all_goals refine ⟨ret_bool (goodB_eq ?_), (Ext.refl _).alloc _⟩
    all_goals simp only [PartM.good]
    all_goals try simp only [beq_iff_eq, beq_eq_false_iff_ne, ne_eq] at *
    all_goals (rw [← isEmpty_iff s]; cases hse : s.toList.isEmpty <;> simp <;> simp_all <;> omega)
end Go.Proofs.YtmdpdgldmedebaaGreatDoor

namespace Go.Proofs.YtmdpdgldmedebaaGreatDoor
set_option linter.unusedSimpArgs false
set_option linter.unusedVariables false
open Go.RowKit

theorem conv_one (w : World) (c : UInt8) : (convert 104 9 (.slice (some ⟨w.heap.size, 0, none⟩) 1 1)).run Tryz.prog (w.alloc (.cells #[.int .u8 (c.toNat : Int)] 5)) = .ok (.string ⟨#[c]⟩) (w.alloc (.cells #[.int .u8 (c.toNat : Int)] 5)) := by
  have := run_convert_bytes_back (P := Tryz.prog) (w.alloc (.cells #[.int .u8 (c.toNat : Int)] 5)) 104 9 5 ⟨w.heap.size, 0, none⟩ 1 [c] Tryz.underlying104 Tryz.underlying5 Tryz.underlying9 (fun j hj => by
    have : j = 0 := by simpa using hj
    subst this
    simp [Addr.add])
  exact this
theorem append_data (a b : ByteArray) : (a ++ b).data.toList = a.data.toList ++ b.data.toList := by
  rw [ByteArray.data_append, Array.toList_append]
theorem ret_str {a b : ByteArray} (h : a = b) : Ending.returned (.string a) = .returned (.string b) := by rw [h]
def sevB (u : Nat) : ByteArray := ⟨(sev u).toArray⟩

set_option maxHeartbeats 1600000 in
set_option maxRecDepth 10000 in
theorem sevens_any (u : Nat) (w : World) (hu : u < 4398046511104) :
    Calls Tryz.prog 80 #[.int .i64 u] w fun e w' => e = .returned (.string (sevB u)) ∧ Ext w w' := by
  go_enter Tryz.func80, Tryz.ntmps80
  go_wp2
  go_loopw [0, 3] (fun x s wr => ∃ (u' : Nat) (t : ByteArray), x = .int .i64 u' ∧ s = .string t ∧ u' < 4398046511104 ∧ t.data.toList ++ sev u' = sev u ∧ Ext w wr) (fun x _ _ => (intOf x).toNat)
  case atStart => exact ⟨u, ⟨#[]⟩, rfl, rfl, hu, rfl, Ext.refl _⟩
  case round =>
    obtain ⟨u', t, rfl, rfl, hu', he, hx⟩ := hrel
    have hts : t.size ≤ 6 := by
      have h1 := congrArg List.length he
      have h2 := sev_len6 hu
      rw [List.length_append, bytes_len] at h1
      omega
    have He := hide he
    clear he
    have hone : ∀ c : UInt8, (ByteArray.mk #[c]).size = 1 := fun _ => rfl
    by_cases hlt : u' < 128
    · have hcv := conv_one wr (UInt8.ofNat u')
      rw [byte_small hlt] at hcv
      go_wp2
      go_ret
      refine ⟨ret_str (bytes_ext ?_), hx.alloc _⟩
      rw [append_data]
      show t.data.toList ++ [UInt8.ofNat u'] = sev u
      rw [← sev_small hlt]; exact unhide He
    · have hcv := conv_one wr (UInt8.ofNat (u' % 128 + 128))
      rw [byte_large u', show ((u' % 128 + 128 : Nat) : Int) = (u' : Int) % 128 + 128 by omega] at hcv
      go_wp2
      go_roundw
      case rel => exact ⟨u' / 128, _, by go_num, rfl, by omega, by rw [append_data, ← unhide He, sev_large hlt]; simp, hx.alloc _⟩
      case measure => simp [intOf]; omega
end Go.Proofs.YtmdpdgldmedebaaGreatDoor

namespace Go.Proofs.YtmdpdgldmedebaaGreatDoor
set_option linter.unusedSimpArgs false
set_option linter.unusedVariables false
open Go.RowKit

theorem sevB_size {u : Nat} (hu : u < 4398046511104) : (sevB u).size ≤ 6 := by
  rw [← bytes_len]; exact sev_len6 hu
def strOf (l : List UInt8) : ByteArray := ⟨l.toArray⟩
theorem strOf_size (l : List UInt8) : (strOf l).size = l.length := by rw [← bytes_len]; rfl
theorem strOf_app (l : List UInt8) (b : ByteArray) : strOf l ++ b = strOf (l ++ b.data.toList) := by
  apply bytes_ext
  rw [append_data]; simp [strOf]
theorem enc_is' {ps : List PartM} {e : Int} {l : List UInt8} (h : encR [] ps = (e, l)) : Ending.returned (.tuple #[.string (strOf l), .int .i64 e]) = .returned (.tuple #[.string (wencS ps), .int .i64 (encE ps)]) := enc_is h

/-- The region that draws: sevens(len(p.S)) + p.S. -/
theorem text_len {p : PartM} (h : p.good) (hk : ¬ p.kind = 0) : p.n = 0 ∧ p.s.size ≤ 20000 ∧ 1 ≤ p.kind := by
  obtain ⟨_, _, h3⟩ := h
  rcases h3 with ⟨h3, _⟩ | ⟨h3, h4, h5⟩
  · exact absurd h3 hk
  · exact ⟨h4, h5, by omega⟩

set_option maxHeartbeats 6400000 in
set_option maxRecDepth 10000 in
theorem encodeParts_any (s : SV) (ps : List PartM) (w : World) (hs : PartsAt w s ps) (hn : ps.length ≤ 9223372036854775807) (hst : ∀ p ∈ ps, p.s.size ≤ 9223372036854775807) :
    Calls Tryz.prog 57 #[.slice s.a s.len s.cap] w fun e w' => e = .returned (.tuple #[.string (wencS ps), .int .i64 (encE ps)]) ∧ Ext w w' := by
  obtain ⟨a, n, cap⟩ := s
  obtain ⟨hl, hps⟩ := hs
  simp only at hl
  subst hl
  show Calls Tryz.prog 57 #[.slice a ps.length cap] w _
  go_enter Tryz.func57, Tryz.ntmps57
  go_wp2
  go_loopw [4, 9] (fun o i wr => ∃ (k : Nat) (l : List UInt8), i = .int .i64 k ∧ k ≤ ps.length ∧ o = .string (strOf l) ∧ encR [] ps = encR l (ps.drop k) ∧ l.length ≤ 20000 ∧ Ext w wr) (fun _ i _ => ps.length - (intOf i).toNat)
  case atStart => exact ⟨0, [], rfl, by omega, rfl, by simp, by simp, Ext.refl _⟩
  case round =>
    obtain ⟨k, l, rfl, hk, rfl, hE, hll, hx⟩ := hrel
    have HE := hide hE
    clear hE
    have hlz : (strOf l).size ≤ 20000 := by rw [strOf_size]; exact hll
    by_cases hlt : k < ps.length
    · obtain ⟨b, o, cs, rfl, hr, hcs⟩ := hps k ps[k] (by simp [hlt])
      have hsk := hst ps[k] (List.getElem_mem hlt)
      have HD := hide (drop_cons hlt)
      obtain ⟨p, hp⟩ : ∃ p, ps[k] = p := ⟨_, rfl⟩
      rw [hp] at hcs hsk HD
      subst hcs
      clear hp hps hst
      obtain ⟨c0, c1, c2, c3⟩ := range4 (hx.range hr)
      obtain ⟨gb, hg⟩ : ∃ gb, goodB p = gb := ⟨_, rfl⟩
      have hx0 : Ext wr (wr.alloc (.cells #[.int .i64 p.id, .int .i64 p.kind, .int .i64 p.n, .string p.s] 85)) := (Ext.refl _).alloc _
      have hA0 := heap_alloc_new wr (.cells #[.int .i64 p.id, .int .i64 p.kind, .int .i64 p.n, .string p.s] 85)
      have Hga := hide (isPart_any p (wr.alloc (.cells #[.int .i64 p.id, .int .i64 p.kind, .int .i64 p.n, .string p.s] 85)) hsk)
      rw [hg] at Hga
      go_wp2_with fail
      refine (unhide Hga).mono ?_
      rintro e w1 ⟨rfl, hx1⟩
      cases gb
      · have e : Hid (encR [] ps = (1, [])) := by
          unfold Hid
          rw [unhide HE, unhide HD, encR_bad hg]
        go_wp2
        go_ret2
        exact ⟨enc_is (unhide e), (hx.trans hx0).trans hx1⟩
      · have hx01 := hx0.trans hx1
        have hA1 := hx1.heap hA0
        obtain ⟨d0, d1, d2, d3, df⟩ := row4 hA1
        have hgp := goodB_true.1 hg
        have hpl := part_len hgp
        have EB : Hid (partB p = sev (headN p) ++ (if p.kind = 0 then sev (foldN p.n) else sev p.s.size ++ p.s.data.toList)) := rfl
        have hhd : headN p < 4398046511104 := by
          obtain ⟨h1, h2, h3⟩ := hgp
          unfold headN; omega
        have hid : 1 ≤ p.id ∧ p.id ≤ 30 := ⟨hgp.1, hgp.2.1⟩
        have hkd : 0 ≤ p.kind ∧ p.kind ≤ 2 := by
          obtain ⟨_, _, h3⟩ := hgp
          omega
        have hhe : 4 * p.id + p.kind = (headN p : Int) := by unfold headN; omega
        obtain ⟨hid1, hid2⟩ := hid
        obtain ⟨hk1, hk2⟩ := hkd
        go_wp2_with fail
        refine (sevens_any (headN p) w1 hhd).mono ?_
        rintro e w2 ⟨rfl, hx2⟩
        have hA2 := hx2.heap hA1
        clear d0 d1 d2 d3 df
        obtain ⟨d0, d1, d2, d3, df⟩ := row4 hA2
        have hsz := sevB_size hhd
        have hx02 := hx01.trans hx2
        have hsz2 : (strOf l ++ sevB (headN p)).size ≤ 20006 := by rw [ByteArray.size_append]; omega
        have e1 := hide (strOf_app l (sevB (headN p)))
        obtain ⟨t1, ht1⟩ : ∃ t1, strOf l ++ sevB (headN p) = t1 := ⟨_, rfl⟩
        rw [ht1] at e1 hsz2
        by_cases hk0 : p.kind = 0
        · have Hk0 := hide hk0
          have hkz : ((p.kind : Int)) = 0 := hk0
          have hn12 : -1099511627776 ≤ p.n ∧ p.n ≤ 1099511627776 := by
            obtain ⟨_, _, h3⟩ := hgp
            omega
          obtain ⟨hn1, hn2⟩ := hn12
          have hff := fold_lt hn1 hn2
          have hfs := sevB_size hff
          have EP : Hid (partB p = sev (headN p) ++ sev (foldN p.n)) := by
            unfold Hid; rw [unhide EB, if_pos hk0]
          have EF : Hid (foldN p.n = if p.n < 0 then (-2 * p.n - 1).toNat else (2 * p.n).toNat) := rfl
          have hsz3 : (t1 ++ sevB (foldN p.n)).size ≤ 20012 := by rw [ByteArray.size_append]; omega
          clear hk0
          by_cases hneg : p.n < 0
          · have hfe : -2 * p.n - 1 = (foldN p.n : Int) := by rw [unhide EF, if_pos hneg]; omega
            go_wp2_with fail
            refine (sevens_any (foldN p.n) w2 hff).mono ?_
            rintro e w3 ⟨rfl, hx3⟩
            obtain ⟨l2, hl2⟩ : ∃ l2, l ++ partB p = l2 := ⟨_, rfl⟩
            have ht2 : t1 ++ sevB (foldN p.n) = strOf l2 := by
              rw [← hl2]
              apply bytes_ext
              rw [append_data, unhide e1, unhide EP]
              simp [strOf, sevB]
            have hz2 : (strOf l2).size = l2.length := strOf_size l2
            have hlm : l2.length ≤ 40020 := by rw [← hl2, List.length_append]; omega
            by_cases hlong : 20000 < l2.length
            · have e : Hid (encR [] ps = (7, [])) := by
                unfold Hid
                rw [unhide HE, unhide HD, encR_long hg (by rw [hl2]; exact hlong)]
              clear hl2
              go_wp2
              go_ret2
              exact ⟨enc_is (unhide e), hx.trans (hx02.trans hx3)⟩
            · have e : Hid (encR [] ps = encR l2 (ps.drop (k + 1))) := by
                unfold Hid
                rw [unhide HE, unhide HD, encR_good hg (by rw [hl2]; omega), hl2]
              clear hl2
              go_wp2
              go_roundw
              case rel => exact ⟨k + 1, l2, by go_num, by omega, rfl, e, by omega, hx.trans (hx02.trans hx3)⟩
              case measure => simp [intOf]; omega
          · have hfe : 2 * p.n = (foldN p.n : Int) := by rw [unhide EF, if_neg hneg]; omega
            go_wp2_with fail
            refine (sevens_any (foldN p.n) w2 hff).mono ?_
            rintro e w3 ⟨rfl, hx3⟩
            obtain ⟨l2, hl2⟩ : ∃ l2, l ++ partB p = l2 := ⟨_, rfl⟩
            have ht2 : t1 ++ sevB (foldN p.n) = strOf l2 := by
              rw [← hl2]
              apply bytes_ext
              rw [append_data, unhide e1, unhide EP]
              simp [strOf, sevB]
            have hz2 : (strOf l2).size = l2.length := strOf_size l2
            have hlm : l2.length ≤ 40020 := by rw [← hl2, List.length_append]; omega
            by_cases hlong : 20000 < l2.length
            · have e : Hid (encR [] ps = (7, [])) := by
                unfold Hid
                rw [unhide HE, unhide HD, encR_long hg (by rw [hl2]; exact hlong)]
              clear hl2
              go_wp2
              go_ret2
              exact ⟨enc_is (unhide e), hx.trans (hx02.trans hx3)⟩
            · have e : Hid (encR [] ps = encR l2 (ps.drop (k + 1))) := by
                unfold Hid
                rw [unhide HE, unhide HD, encR_good hg (by rw [hl2]; omega), hl2]
              clear hl2
              go_wp2
              go_roundw
              case rel => exact ⟨k + 1, l2, by go_num, by omega, rfl, e, by omega, hx.trans (hx02.trans hx3)⟩
              case measure => simp [intOf]; omega
        · obtain ⟨hn0, hss, hkp⟩ := text_len hgp hk0
          have EP : Hid (partB p = sev (headN p) ++ (sev p.s.size ++ p.s.data.toList)) := by
            unfold Hid; rw [unhide EB, if_neg hk0]
          have hsl : p.s.size < 4398046511104 := by omega
          have hfs := sevB_size hsl
          have hsz3 : (sevB p.s.size ++ p.s).size ≤ 20006 := by rw [ByteArray.size_append]; omega
          clear hk0
          go_wp2_with fail
          refine wp_region_X (fun w' => w'.cell? ⟨wr.heap.size, 3, none⟩ = some (.string p.s)) (fun j => decide (9 ≤ j)) (by kernel_rfl) ?_
          refine wpAnyX_take (i := 0) (v := .string t1) rfl (by kernel_rfl) (by kernel_rfl) (fun _ _ _ h => h) (.inl ⟨rfl, fun w' hS => by simp [execOp, go_sem]⟩) d3 ?_
          simp only [Act.put, List.setIfInBounds_toArray, List.set_cons_succ, List.set_cons_zero]
          refine wpAnyX_take (i := 1) (v := .pointer (some ⟨wr.heap.size, 3, none⟩)) rfl (by kernel_rfl) (by kernel_rfl) (fun _ _ _ h => h) (.inl ⟨rfl, fun w' hS => by simp [execOp, go_sem]⟩) d3 ?_
          simp only [Act.put, List.setIfInBounds_toArray, List.set_cons_succ, List.set_cons_zero]
          refine wpAnyX_take (i := 2) (v := .string p.s) rfl (by kernel_rfl) (by kernel_rfl) (fun _ _ _ h => h) (.inl ⟨rfl, fun w' hS => by simp [execOp, go_sem, hS]⟩) d3 ?_
          simp only [Act.put, List.setIfInBounds_toArray, List.set_cons_succ, List.set_cons_zero]
          refine wpAnyX_take (i := 3) (v := .int .i64 p.s.size) rfl (by kernel_rfl) (by kernel_rfl) (fun _ _ _ h => h) (.inl ⟨rfl, fun w' hS => by simp [execOp, go_sem, hsl]⟩) d3 ?_
          simp only [Act.put, List.setIfInBounds_toArray, List.set_cons_succ, List.set_cons_zero]
          refine wpAnyX_take (i := 5) (v := .pointer (some ⟨wr.heap.size, 3, none⟩)) rfl (by kernel_rfl) (by kernel_rfl) (fun _ _ _ h => h) (.inl ⟨rfl, fun w' hS => by simp [execOp, go_sem]⟩) d3 ?_
          simp only [Act.put, List.setIfInBounds_toArray, List.set_cons_succ, List.set_cons_zero]
          refine wpAnyX_take (i := 6) (v := .string p.s) rfl (by kernel_rfl) (by kernel_rfl) (fun _ _ _ h => h) (.inl ⟨rfl, fun w' hS => by simp [execOp, go_sem, hS]⟩) d3 ?_
          simp only [Act.put, List.setIfInBounds_toArray, List.set_cons_succ, List.set_cons_zero]
          refine wpAnyX_one (j := 4) rfl (by kernel_rfl) rfl fun K hK => ?_
          go_wp2_with fail
          refine (sevens_any p.s.size _ hsl).mono ?_
          rintro e w3 ⟨rfl, hx3⟩
          have hx23 : Ext w2 w3 := ((Ext.refl w2).drew).trans hx3
          have d3' := hx23.cell d3
          obtain ⟨l2, hl2⟩ : ∃ l2, l ++ partB p = l2 := ⟨_, rfl⟩
          have ht2 : t1 ++ (sevB p.s.size ++ p.s) = strOf l2 := by
            rw [← hl2]
            apply bytes_ext
            rw [append_data, append_data, unhide e1, unhide EP]
            simp [strOf, sevB]
          have hz2 : (strOf l2).size = l2.length := strOf_size l2
          have hlm : l2.length ≤ 40020 := by rw [← hl2, List.length_append]; omega
          have hx03 := hx.trans (hx02.trans hx23)
          go_wp2
          refine hK.out _ _ d3' ?_
          clear hK K
          refine wpAnyX_one (j := 7) rfl (by kernel_rfl) rfl fun K hK => ?_
          go_wp2
          refine hK.out _ _ d3' ?_
          clear hK K
          refine wpAnyX_one (j := 8) rfl (by kernel_rfl) rfl fun K hK => ?_
          go_wp2
          refine hK.out _ _ d3' ?_
          clear hK K
          refine wpAnyX_end [9] [_] rfl (by intro j i hj; match j, hj with | 0, hj => cases hj; rfl) (by kernel_rfl) (by intro i hi; cases hi; rfl) fun K hK => ?_
          go_wp2
          refine hK.out _ _ ?_
          clear hK K
          by_cases hlong : 20000 < l2.length
          · have e : Hid (encR [] ps = (7, [])) := by
              unfold Hid
              rw [unhide HE, unhide HD, encR_long hg (by rw [hl2]; exact hlong)]
            clear hl2
            go_wp2
            go_ret2
            exact ⟨enc_is (unhide e), hx03⟩
          · have e : Hid (encR [] ps = encR l2 (ps.drop (k + 1))) := by
              unfold Hid
              rw [unhide HE, unhide HD, encR_good hg (by rw [hl2]; omega), hl2]
            clear hl2
            go_wp2
            go_roundw
            case rel => exact ⟨k + 1, l2, by go_num, by omega, rfl, e, by omega, hx03⟩
            case measure => simp [intOf]; omega
    · have e : Hid (encR [] ps = (0, l)) := by
        unfold Hid
        rw [unhide HE, List.drop_of_length_le (by omega), encR]
      go_wp2
      go_ret2
      exact ⟨enc_is' (unhide e), hx⟩
end Go.Proofs.YtmdpdgldmedebaaGreatDoor

