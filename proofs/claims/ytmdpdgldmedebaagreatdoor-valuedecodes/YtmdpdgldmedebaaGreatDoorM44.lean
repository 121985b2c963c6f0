import Derived.Test.YtmdpdgldmedebaaGreatDoorM43
namespace Go.Proofs.YtmdpdgldmedebaaGreatDoor
set_option linter.unusedSimpArgs false
set_option linter.unusedVariables false
set_option linter.unusedSimpArgs false
set_option linter.unusedVariables false
open Go.RowKit

theorem info27 : (Tryz.prog.info? 85).map (fun i => (i.zero, i.size, i.bytes)) = some (some (.agg #[.int .i64 0, .int .i64 0, .int .i64 0, .string ⟨#[]⟩]), 4, 40) := by kernel_rfl
end Go.Proofs.YtmdpdgldmedebaaGreatDoor

namespace Go.Proofs.YtmdpdgldmedebaaGreatDoor
set_option linter.unusedSimpArgs false
set_option linter.unusedVariables false
open Go.RowKit

set_option maxHeartbeats 3200000 in
set_option maxRecDepth 10000 in
theorem isPart_any (p : PartM) (w : World) (hs : p.s.size ≤ 9223372036854775807) :
    Calls Tryz.prog 79 #[.agg #[.int .i64 p.id, .int .i64 p.kind, .int .i64 p.n, .string p.s]] w fun e w' => e = .returned (.bool (goodB p)) ∧ Ext w w' := by
  obtain ⟨id, kind, n, s⟩ := p
  simp only at hs
  by_cases h0 : id < 1 ∨ 30 < id ∨ 1099511627776 < n ∨ n < -1099511627776 ∨ 20000 < (s.size : Int)
  · have hb : goodB ⟨id, kind, n, s⟩ = false := by
      rw [goodB_false]
      rintro ⟨h1, h2, h3⟩
      simp only at h1 h2 h3
      rcases h3 with ⟨_, h3, h4, rfl⟩ | ⟨_, h3, h4⟩
      · have : (ByteArray.mk #[]).size = 0 := rfl
        omega
      · omega
    rw [hb]
    go_enter Tryz.func79, Tryz.ntmps79
    go_wp2
    all_goals first | (exfalso; omega) | skip
    all_goals go_ret
    all_goals exact ⟨rfl, (Ext.refl _).alloc _⟩
  · have h1 : 1 ≤ id := by omega
    have h2 : id ≤ 30 := by omega
    have h3 : n ≤ 1099511627776 := by omega
    have h4 : -1099511627776 ≤ n := by omega
    have h5 : (s.size : Int) ≤ 20000 := by omega
    clear h0
    go_enter Tryz.func79, Tryz.ntmps79
    go_wp2
    all_goals go_ret
    all_goals refine ⟨ret_bool (goodB_eq ?_), (Ext.refl _).alloc _⟩
    all_goals simp only [PartM.good]
    all_goals try simp only [beq_iff_eq, beq_eq_false_iff_ne, ne_eq] at *
    all_goals (rw [← isEmpty_iff s]; cases hse : s.toList.isEmpty <;> simp <;> simp_all <;> omega)
end Go.Proofs.YtmdpdgldmedebaaGreatDoor

namespace Go.Proofs.YtmdpdgldmedebaaGreatDoor
set_option linter.unusedSimpArgs false
set_option linter.unusedVariables false
open Go.RowKit

theorem conv_one (w : World) (c : UInt8) : (convert 104 9 (.slice (some ⟨w.heap.size, 0, none⟩) 1 1)).run Tryz.prog (w.alloc (.cells #[.int .u8 (c.toNat : Int)] 5)) = .ok (.string ⟨#[c]⟩) (w.alloc (.cells #[.int .u8 (c.toNat : Int)] 5)) := by
  have := run_convert_bytes_back (P := Tryz.prog) (w.alloc (.cells #[.int .u8 (c.toNat : Int)] 5)) 104 9 5 ⟨w.heap.size, 0, none⟩ 1 [c] Tryz.underlying104 Tryz.underlying5 Tryz.underlying9 (fun j hj => by
    have : j = 0 := by simpa using hj
    subst this
    simp [Addr.add])
  exact this
theorem append_data (a b : ByteArray) : (a ++ b).data.toList = a.data.toList ++ b.data.toList := by
  rw [ByteArray.data_append, Array.toList_append]
theorem ret_str {a b : ByteArray} (h : a = b) : Ending.returned (.string a) = .returned (.string b) := by rw [h]
def sevB (u : Nat) : ByteArray := ⟨(sev u).toArray⟩

set_option maxHeartbeats 1600000 in
set_option maxRecDepth 10000 in
theorem sevens_any (u : Nat) (w : World) (hu : u < 4398046511104) :
    Calls Tryz.prog 80 #[.int .i64 u] w fun e w' => e = .returned (.string (sevB u)) ∧ Ext w w' := by
  go_enter Tryz.func80, Tryz.ntmps80
  go_wp2
  go_loopw [0, 3] (fun x s wr => ∃ (u' : Nat) (t : ByteArray), x = .int .i64 u' ∧ s = .string t ∧ u' < 4398046511104 ∧ t.data.toList ++ sev u' = sev u ∧ Ext w wr) (fun x _ _ => (intOf x).toNat)
  case atStart => exact ⟨u, ⟨#[]⟩, rfl, rfl, hu, rfl, Ext.refl _⟩
  case round =>
    obtain ⟨u', t, rfl, rfl, hu', he, hx⟩ := hrel
    have hts : t.size ≤ 6 := by
      have h1 := congrArg List.length he
      have h2 := sev_len6 hu
      rw [List.length_append, bytes_len] at h1
      omega
    have He := hide he
    clear he
    have hone : ∀ c : UInt8, (ByteArray.mk #[c]).size = 1 := fun _ => rfl
    by_cases hlt : u' < 128
    · have hcv := conv_one wr (UInt8.ofNat u')
      rw [byte_small hlt] at hcv
      go_wp2
      go_ret
      refine ⟨ret_str (bytes_ext ?_), hx.alloc _⟩
      rw [append_data]
      show t.data.toList ++ [UInt8.ofNat u'] = sev u
      rw [← sev_small hlt]; exact unhide He
    · have hcv := conv_one wr (UInt8.ofNat (u' % 128 + 128))
      rw [byte_large u', show ((u' % 128 + 128 : Nat) : Int) = (u' : Int) % 128 + 128 by omega] at hcv
      go_wp2
      go_roundw
      case rel => exact ⟨u' / 128, _, by go_num, rfl, by omega, by rw [append_data, ← unhide He, sev_large hlt]; simp, hx.alloc _⟩
      case measure => simp [intOf]; omega
end Go.Proofs.YtmdpdgldmedebaaGreatDoor

namespace Go.Proofs.YtmdpdgldmedebaaGreatDoor
set_option linter.unusedSimpArgs false
set_option linter.unusedVariables false
open Go.RowKit

theorem sevB_size {u : Nat} (hu : u < 4398046511104) : (sevB u).size ≤ 6 := by
  rw [← bytes_len]; exact sev_len6 hu
def strOf (l : List UInt8) : ByteArray := ⟨l.toArray⟩
theorem strOf_size (l : List UInt8) : (strOf l).size = l.length := by rw [← bytes_len]; rfl
theorem strOf_app (l : List UInt8) (b : ByteArray) : strOf l ++ b = strOf (l ++ b.data.toList) := by
  apply bytes_ext
  rw [append_data]; simp [strOf]
theorem enc_is' {ps : List PartM} {e : Int} {l : List UInt8} (h : encR [] ps = (e, l)) : Ending.returned (.tuple #[.string (strOf l), .int .i64 e]) = .returned (.tuple #[.string (wencS ps), .int .i64 (encE ps)]) := enc_is h

/-- The region that draws: sevens(len(p.S)) + p.S. -/
theorem text_len {p : PartM} (h : p.good) (hk : ¬ p.kind = 0) : p.n = 0 ∧ p.s.size ≤ 20000 ∧ 1 ≤ p.kind := by
  obtain ⟨_, _, h3⟩ := h
  rcases h3 with ⟨h3, _⟩ | ⟨h3, h4, h5⟩
  · exact absurd h3 hk
  · exact ⟨h4, h5, by omega⟩

set_option maxHeartbeats 6400000 in
set_option maxRecDepth 10000 in
theorem encodeParts_any (s : SV) (ps : List PartM) (w : World) (hs : PartsAt w s ps) (hn : ps.length ≤ 9223372036854775807) (hst : ∀ p ∈ ps, p.s.size ≤ 9223372036854775807) :
    Calls Tryz.prog 57 #[.slice s.a s.len s.cap] w fun e w' => e = .returned (.tuple #[.string (wencS ps), .int .i64 (encE ps)]) ∧ Ext w w' := by
  obtain ⟨a, n, cap⟩ := s
  obtain ⟨hl, hps⟩ := hs
  simp only at hl
  subst hl
  show Calls Tryz.prog 57 #[.slice a ps.length cap] w _
  go_enter Tryz.func57, Tryz.ntmps57
  go_wp2
  go_loopw [4, 9] (fun o i wr => ∃ (k : Nat) (l : List UInt8), i = .int .i64 k ∧ k ≤ ps.length ∧ o = .string (strOf l) ∧ encR [] ps = encR l (ps.drop k) ∧ l.length ≤ 20000 ∧ Ext w wr) (fun _ i _ => ps.length - (intOf i).toNat)
  case atStart => exact ⟨0, [], rfl, by omega, rfl, by simp, by simp, Ext.refl _⟩
  case round =>
    obtain ⟨k, l, rfl, hk, rfl, hE, hll, hx⟩ := hrel
    have HE := hide hE
    clear hE
    have hlz : (strOf l).size ≤ 20000 := by rw [strOf_size]; exact hll
    by_cases hlt : k < ps.length
    · obtain ⟨b, o, cs, rfl, hr, hcs⟩ := hps k ps[k] (by simp [hlt])
      have hsk := hst ps[k] (List.getElem_mem hlt)
      have HD := hide (drop_cons hlt)
      obtain ⟨p, hp⟩ : ∃ p, ps[k] = p := ⟨_, rfl⟩
      rw [hp] at hcs hsk HD
      subst hcs
      clear hp hps hst
      obtain ⟨c0, c1, c2, c3⟩ := range4 (hx.range hr)
      obtain ⟨gb, hg⟩ : ∃ gb, goodB p = gb := ⟨_, rfl⟩
      have hx0 : Ext wr (wr.alloc (.cells #[.int .i64 p.id, .int .i64 p.kind, .int .i64 p.n, .string p.s] 85)) := (Ext.refl _).alloc _
      have hA0 := heap_alloc_new wr (.cells #[.int .i64 p.id, .int .i64 p.kind, .int .i64 p.n, .string p.s] 85)
      have Hga := hide (isPart_any p (wr.alloc (.cells #[.int .i64 p.id, .int .i64 p.kind, .int .i64 p.n, .string p.s] 85)) hsk)
      rw [hg] at Hga
      go_wp2_with fail
      refine (unhide Hga).mono ?_
      rintro e w1 ⟨rfl, hx1⟩
      cases gb
      · have e : Hid (encR [] ps = (1, [])) := by
          unfold Hid
          rw [unhide HE, unhide HD, encR_bad hg]
        go_wp2
        go_ret2
        exact ⟨enc_is (unhide e), (hx.trans hx0).trans hx1⟩
      · have hx01 := hx0.trans hx1
        have hA1 := hx1.heap hA0
        obtain ⟨d0, d1, d2, d3, df⟩ := row4 hA1
        have hgp := goodB_true.1 hg
        have hpl := part_len hgp
        have EB : Hid (partB p = sev (headN p) ++ (if p.kind = 0 then sev (foldN p.n) else sev p.s.size ++ p.s.data.toList)) := rfl
        have hhd : headN p < 4398046511104 := by
          obtain ⟨h1, h2, h3⟩ := hgp
          unfold headN; omega
        have hid : 1 ≤ p.id ∧ p.id ≤ 30 := ⟨hgp.1, hgp.2.1⟩
        have hkd : 0 ≤ p.kind ∧ p.kind ≤ 2 := by
          obtain ⟨_, _, h3⟩ := hgp
          omega
        have hhe : 4 * p.id + p.kind = (headN p : Int) := by unfold headN; omega
        obtain ⟨hid1, hid2⟩ := hid
        obtain ⟨hk1, hk2⟩ := hkd
        go_wp2_with fail
        refine (sevens_any (headN p) w1 hhd).mono ?_
        rintro e w2 ⟨rfl, hx2⟩
        have hA2 := hx2.heap hA1
        clear d0 d1 d2 d3 df
        obtain ⟨d0, d1, d2, d3, df⟩ := row4 hA2
        have hsz := sevB_size hhd
        have hx02 := hx01.trans hx2
        have hsz2 : (strOf l ++ sevB (headN p)).size ≤ 20006 := by rw [ByteArray.size_append]; omega
        have e1 := hide (strOf_app l (sevB (headN p)))
        obtain ⟨t1, ht1⟩ : ∃ t1, strOf l ++ sevB (headN p) = t1 := ⟨_, rfl⟩
        rw [ht1] at e1 hsz2
        by_cases hk0 : p.kind = 0
        · have Hk0 := hide hk0
          have hkz : ((p.kind : Int)) = 0 := hk0
          have hn12 : -1099511627776 ≤ p.n ∧ p.n ≤ 1099511627776 := by
            obtain ⟨_, _, h3⟩ := hgp
            omega
          obtain ⟨hn1, hn2⟩ := hn12
          have hff := fold_lt hn1 hn2
          have hfs := sevB_size hff
          have EP : Hid (partB p = sev (headN p) ++ sev (foldN p.n)) := by
            unfold Hid; rw [unhide EB, if_pos hk0]
          have EF : Hid (foldN p.n = if p.n < 0 then (-2 * p.n - 1).toNat else (2 * p.n).toNat) := rfl
          have hsz3 : (t1 ++ sevB (foldN p.n)).size ≤ 20012 := by rw [ByteArray.size_append]; omega
          clear hk0
          by_cases hneg : p.n < 0
          · have hfe : -2 * p.n - 1 = (foldN p.n : Int) := by rw [unhide EF, if_pos hneg]; omega
            go_wp2_with fail
            refine (sevens_any (foldN p.n) w2 hff).mono ?_
            rintro e w3 ⟨rfl, hx3⟩
            obtain ⟨l2, hl2⟩ : ∃ l2, l ++ partB p = l2 := ⟨_, rfl⟩
            have ht2 : t1 ++ sevB (foldN p.n) = strOf l2 := by
              rw [← hl2]
              apply bytes_ext
              rw [append_data, unhide e1, unhide EP]
              simp [strOf, sevB]
            have hz2 : (strOf l2).size = l2.length := strOf_size l2
            have hlm : l2.length ≤ 40020 := by rw [← hl2, List.length_append]; omega
            by_cases hlong : 20000 < l2.length
            · have e : Hid (encR [] ps = (7, [])) := by
                unfold Hid
                rw [unhide HE, unhide HD, encR_long hg (by rw [hl2]; exact hlong)]
              clear hl2
              go_wp2
              go_ret2
              exact ⟨enc_is (unhide e), hx.trans (hx02.trans hx3)⟩
            · have e : Hid (encR [] ps = encR l2 (ps.drop (k + 1))) := by
                unfold Hid
                rw [unhide HE, unhide HD, encR_good hg (by rw [hl2]; omega), hl2]
              clear hl2
              go_wp2
              go_roundw
              case rel => exact ⟨k + 1, l2, by go_num, by omega, rfl, e, by omega, hx.trans (hx02.trans hx3)⟩
              case measure => simp [intOf]; omega
          · have hfe : 2 * p.n = (foldN p.n : Int) := by rw [unhide EF, if_neg hneg]; omega
            go_wp2_with fail
            refine (sevens_any (foldN p.n) w2 hff).mono ?_
            rintro e w3 ⟨rfl, hx3⟩
            obtain ⟨l2, hl2⟩ : ∃ l2, l ++ partB p = l2 := ⟨_, rfl⟩
            have ht2 : t1 ++ sevB (foldN p.n) = strOf l2 := by
              rw [← hl2]
              apply bytes_ext
              rw [append_data, unhide e1, unhide EP]
              simp [strOf, sevB]
            have hz2 : (strOf l2).size = l2.length := strOf_size l2
            have hlm : l2.length ≤ 40020 := by rw [← hl2, List.length_append]; omega
            by_cases hlong : 20000 < l2.length
            · have e : Hid (encR [] ps = (7, [])) := by
                unfold Hid
                rw [unhide HE, unhide HD, encR_long hg (by rw [hl2]; exact hlong)]
              clear hl2
              go_wp2
              go_ret2
              exact ⟨enc_is (unhide e), hx.trans (hx02.trans hx3)⟩
            · have e : Hid (encR [] ps = encR l2 (ps.drop (k + 1))) := by
                unfold Hid
                rw [unhide HE, unhide HD, encR_good hg (by rw [hl2]; omega), hl2]
              clear hl2
              go_wp2
              go_roundw
              case rel => exact ⟨k + 1, l2, by go_num, by omega, rfl, e, by omega, hx.trans (hx02.trans hx3)⟩
              case measure => simp [intOf]; omega
        · obtain ⟨hn0, hss, hkp⟩ := text_len hgp hk0
          have EP : Hid (partB p = sev (headN p) ++ (sev p.s.size ++ p.s.data.toList)) := by
            unfold Hid; rw [unhide EB, if_neg hk0]
          have hsl : p.s.size < 4398046511104 := by omega
          have hfs := sevB_size hsl
          have hsz3 : (sevB p.s.size ++ p.s).size ≤ 20006 := by rw [ByteArray.size_append]; omega
          clear hk0
          go_wp2_with fail
          refine wp_region_X (fun w' => w'.cell? ⟨wr.heap.size, 3, none⟩ = some (.string p.s)) (fun j => decide (9 ≤ j)) (by kernel_rfl) ?_
          refine wpAnyX_take (i := 0) (v := .string t1) rfl (by kernel_rfl) (by kernel_rfl) (fun _ _ _ h => h) (.inl ⟨rfl, fun w' hS => by simp [execOp, go_sem]⟩) d3 ?_
          simp only [Act.put, List.setIfInBounds_toArray, List.set_cons_succ, List.set_cons_zero]
          refine wpAnyX_take (i := 1) (v := .pointer (some ⟨wr.heap.size, 3, none⟩)) rfl (by kernel_rfl) (by kernel_rfl) (fun _ _ _ h => h) (.inl ⟨rfl, fun w' hS => by simp [execOp, go_sem]⟩) d3 ?_
          simp only [Act.put, List.setIfInBounds_toArray, List.set_cons_succ, List.set_cons_zero]
          refine wpAnyX_take (i := 2) (v := .string p.s) rfl (by kernel_rfl) (by kernel_rfl) (fun _ _ _ h => h) (.inl ⟨rfl, fun w' hS => by simp [execOp, go_sem, hS]⟩) d3 ?_
          simp only [Act.put, List.setIfInBounds_toArray, List.set_cons_succ, List.set_cons_zero]
          refine wpAnyX_take (i := 3) (v := .int .i64 p.s.size) rfl (by kernel_rfl) (by kernel_rfl) (fun _ _ _ h => h) (.inl ⟨rfl, fun w' hS => by simp [execOp, go_sem, hsl]⟩) d3 ?_
          simp only [Act.put, List.setIfInBounds_toArray, List.set_cons_succ, List.set_cons_zero]
          refine wpAnyX_take (i := 5) (v := .pointer (some ⟨wr.heap.size, 3, none⟩)) rfl (by kernel_rfl) (by kernel_rfl) (fun _ _ _ h => h) (.inl ⟨rfl, fun w' hS => by simp [execOp, go_sem]⟩) d3 ?_
          simp only [Act.put, List.setIfInBounds_toArray, List.set_cons_succ, List.set_cons_zero]
          refine wpAnyX_take (i := 6) (v := .string p.s) rfl (by kernel_rfl) (by kernel_rfl) (fun _ _ _ h => h) (.inl ⟨rfl, fun w' hS => by simp [execOp, go_sem, hS]⟩) d3 ?_
          simp only [Act.put, List.setIfInBounds_toArray, List.set_cons_succ, List.set_cons_zero]
          refine wpAnyX_one (j := 4) rfl (by kernel_rfl) rfl fun K hK => ?_
          go_wp2_with fail
          refine (sevens_any p.s.size _ hsl).mono ?_
          rintro e w3 ⟨rfl, hx3⟩
          have hx23 : Ext w2 w3 := ((Ext.refl w2).drew).trans hx3
          have d3' := hx23.cell d3
          obtain ⟨l2, hl2⟩ : ∃ l2, l ++ partB p = l2 := ⟨_, rfl⟩
          have ht2 : t1 ++ (sevB p.s.size ++ p.s) = strOf l2 := by
            rw [← hl2]
            apply bytes_ext
            rw [append_data, append_data, unhide e1, unhide EP]
            simp [strOf, sevB]
          have hz2 : (strOf l2).size = l2.length := strOf_size l2
          have hlm : l2.length ≤ 40020 := by rw [← hl2, List.length_append]; omega
          have hx03 := hx.trans (hx02.trans hx23)
          go_wp2
          refine hK.out _ _ d3' ?_
          clear hK K
          refine wpAnyX_one (j := 7) rfl (by kernel_rfl) rfl fun K hK => ?_
          go_wp2
          refine hK.out _ _ d3' ?_
          clear hK K
          refine wpAnyX_one (j := 8) rfl (by kernel_rfl) rfl fun K hK => ?_
          go_wp2
          refine hK.out _ _ d3' ?_
          clear hK K
          refine wpAnyX_end [9] [_] rfl (by intro j i hj; match j, hj with | 0, hj => cases hj; rfl) (by kernel_rfl) (by intro i hi; cases hi; rfl) fun K hK => ?_
          go_wp2
          refine hK.out _ _ ?_
          clear hK K
          by_cases hlong : 20000 < l2.length
          · have e : Hid (encR [] ps = (7, [])) := by
              unfold Hid
              rw [unhide HE, unhide HD, encR_long hg (by rw [hl2]; exact hlong)]
            clear hl2
            go_wp2
            go_ret2
            exact ⟨enc_is (unhide e), hx03⟩
          · have e : Hid (encR [] ps = encR l2 (ps.drop (k + 1))) := by
              unfold Hid
              rw [unhide HE, unhide HD, encR_good hg (by rw [hl2]; omega), hl2]
            clear hl2
            go_wp2
            go_roundw
            case rel => exact ⟨k + 1, l2, by go_num, by omega, rfl, e, by omega, hx03⟩
            case measure => simp [intOf]; omega
    · have e : Hid (encR [] ps = (0, l)) := by
        unfold Hid
        rw [unhide HE, List.drop_of_length_le (by omega), encR]
      go_wp2
      go_ret2
      exact ⟨enc_is' (unhide e), hx⟩
end Go.Proofs.YtmdpdgldmedebaaGreatDoor

namespace Go.Proofs.YtmdpdgldmedebaaGreatDoor
set_option linter.unusedSimpArgs false
set_option linter.unusedVariables false
open Go.RowKit

theorem ret_two {a b c d : Int} (h : a = c) (h2 : b = d) : Ending.returned (.tuple #[.int .i64 a, .int .i64 b]) = .returned (.tuple #[.int .i64 c, .int .i64 d]) := by rw [h, h2]
theorem CutTo.some_iff {s : ByteArray} {k u : Nat} (h : CutTo s.data.toList k u) (h6 : k < 6) (hk : k < s.size) (hc : s[k].toNat < 128) :
    (sevB (u + 128 ^ k * (s[k].toNat % 128)) = s.extract 0 (k + 1) ∧ cutN 6 true s.data.toList = some (u + 128 ^ k * (s[k].toNat % 128), s.data.toList.drop (k + 1))) ∨
    (sevB (u + 128 ^ k * (s[k].toNat % 128)) ≠ s.extract 0 (k + 1) ∧ cutN 6 true s.data.toList = Option.none) := by
  have hlen := bytes_len s
  cases hf : (k == 0 || s[k].toNat != 0)
  · right
    have hn := h.zero h6 hk hc hf
    refine ⟨fun e => ?_, hn⟩
    have e1 : sev (u + 128 ^ k * (s[k].toNat % 128)) = s.data.toList.take (k + 1) := by
      have := congrArg (fun b : ByteArray => b.data.toList) e
      simpa [sevB, extract_data] using this
    have hlt : u + 128 ^ k * (s[k].toNat % 128) < 128 ^ (5 + 1) := by
      have h1 := h.1
      have h2 : 128 ^ k * (s[k].toNat % 128) ≤ 128 ^ k * 127 := Nat.mul_le_mul_left _ (by omega)
      have h3 : (128 : Nat) ^ (k + 1) ≤ 128 ^ (5 + 1) := Nat.pow_le_pow_right (by omega) (by omega)
      rw [Nat.pow_succ] at h3
      omega
    have h4 := cut_sev 5 _ true (s.data.toList.drop (k + 1)) hlt rfl
    rw [e1, List.take_append_drop, hn] at h4
    cases h4
  · left
    have hn := h.last h6 hk hc hf
    rw [extract_end] at hn
    refine ⟨?_, hn⟩
    obtain ⟨e, _, _⟩ := sev_cut _ _ _ _ _ hn
    apply bytes_ext
    rw [extract_data]
    show sev _ = _
    have e2 := congrArg (List.take (k + 1)) e
    have hl : (sev (u + 128 ^ k * (s[k].toNat % 128))).length = k + 1 := by
      have := congrArg List.length e
      rw [List.length_append, List.length_drop, hlen] at this
      omega
    rw [List.take_left' hl] at e2
    simpa using e2.symm
theorem CutTo.lt42 {s : ByteArray} {k u : Nat} (h : CutTo s.data.toList k u) (h6 : k < 6) (c : UInt8) : u + 128 ^ k * (c.toNat % 128) < 4398046511104 ∧ 128 ^ k ≤ 34359738368 ∧ 128 ^ k * (c.toNat % 128) ≤ 34359738368 * 127 ∧ u < 34359738368 := by
  have h1 := h.1
  have h3 : (128 : Nat) ^ k ≤ 128 ^ 5 := Nat.pow_le_pow_right (by omega) (by omega)
  have h5 : (128 : Nat) ^ 5 = 34359738368 := by decide
  rw [h5] at h3
  have h2 : 128 ^ k * (c.toNat % 128) ≤ 34359738368 * 127 := Nat.mul_le_mul h3 (by omega)
  omega

set_option maxHeartbeats 3200000 in
set_option maxRecDepth 10000 in
theorem seven_any (s : ByteArray) (w : World) (hs : s.size ≤ 20000) :
    Calls Tryz.prog 86 #[.string s] w fun e w' => ∃ (n c : Nat), e = .returned (.tuple #[.int .i64 n, .int .i64 c]) ∧ (c = 0 ∧ cutN 6 true s.data.toList = none ∨ 1 ≤ c ∧ c ≤ s.size ∧ cutN 6 true s.data.toList = some (n, s.data.toList.drop c)) ∧ Ext w w' := by
  go_enter Tryz.func86, Tryz.ntmps86
  go_wp2
  go_loopw [4, 5, 6] (fun x y i wr => ∃ (k u b : Nat), k ≤ 6 ∧ k ≤ s.size ∧ i = .int .i64 k ∧ x = .int .i64 u ∧ y = .int .i64 b ∧ b = 128 ^ k ∧ CutTo s.data.toList k u ∧ Ext w wr) (fun _ _ i _ => 6 - (intOf i).toNat)
  case atStart => exact ⟨0, 0, 1, by omega, by omega, rfl, rfl, rfl, rfl, CutTo.start _, Ext.refl _⟩
  case round =>
    obtain ⟨k, u, b, hk6, hks, rfl, rfl, rfl, hb, hT, hx⟩ := hrel
    by_cases hlt : k < 6 ∧ k < s.size
    · obtain ⟨h6, hsz⟩ := hlt
      have hc := s[k].toNat_lt
      obtain ⟨m1, m2, m3, m4⟩ := hT.lt42 h6 s[k]
      rw [← hb] at m1 m2 m3
      have Hb := hide hb
      have hmul : (s[k].toNat : Int) % 128 * (b : Int) = ((b * (s[k].toNat % 128) : Nat) : Int) := by
        rw [Nat.mul_comm]; simp
      obtain ⟨q, hq⟩ : ∃ q : Nat, b * (s[k].toNat % 128) = q := ⟨_, rfl⟩
      rw [hq] at m1 m3 hmul
      have Hq := hide hq
      clear hq hb
      by_cases hc1 : s[k].toNat < 128
      · have HI := hide (hT.some_iff h6 hsz hc1)
        rw [← unhide Hb, unhide Hq] at HI
        have i64k : IntKind.i64.wrap ((k : Int) + 1) = (k : Int) + 1 := by rw [IntKind.wrap_i64]; omega
        rcases (unhide HI) with ⟨he, hcut⟩ | ⟨he, hcut⟩
        · have hq : ((sevB (u + q)).toList == (s.extract 0 (k + 1)).toList) = true := by rw [he]; simp
          have Hcut := hide hcut
          clear he hcut HI
          go_wp2_with fail
          refine wp_region_X (fun _ => True) (fun _ => false) (by kernel_rfl) ?_
          refine wpAnyX_take (i := 0) (v := .int .i64 ((u : Int) + q)) rfl (by kernel_rfl) (by kernel_rfl) (fun _ _ _ h => h) (.inl ⟨rfl, fun w' hS => by simp [execOp, go_sem]⟩) trivial ?_
          simp only [Act.put, List.setIfInBounds_toArray, List.set_cons_succ, List.set_cons_zero]
          refine wpAnyX_take (i := 2) (v := .string s) rfl (by kernel_rfl) (by kernel_rfl) (fun _ _ _ h => h) (.inl ⟨rfl, fun w' hS => by simp [execOp, go_sem]⟩) trivial ?_
          simp only [Act.put, List.setIfInBounds_toArray, List.set_cons_succ, List.set_cons_zero]
          refine wpAnyX_take (i := 3) (v := .int .i64 k) rfl (by kernel_rfl) (by kernel_rfl) (fun _ _ _ h => h) (.inl ⟨rfl, fun w' hS => by simp [execOp, go_sem]⟩) trivial ?_
          simp only [Act.put, List.setIfInBounds_toArray, List.set_cons_succ, List.set_cons_zero]
          refine wpAnyX_take (i := 4) (v := .int .i64 ((k : Int) + 1)) rfl (by kernel_rfl) (by kernel_rfl) (fun _ _ _ h => h) (.inl ⟨rfl, fun w' hS => by simp [execOp, go_sem, i64k]⟩) trivial ?_
          simp only [Act.put, List.setIfInBounds_toArray, List.set_cons_succ, List.set_cons_zero]
          refine wpAnyX_take (i := 5) (v := .string (s.extract 0 (k + 1))) rfl (by kernel_rfl) (by kernel_rfl) (fun _ _ _ h => h) (.inl ⟨rfl, fun w' hS => by simp [execOp, go_sem]; intro h; exfalso; have := h (by omega); omega⟩) trivial ?_
          simp only [Act.put, List.setIfInBounds_toArray, List.set_cons_succ, List.set_cons_zero]
          refine wpAnyX_one (j := 1) rfl (by kernel_rfl) rfl fun K hK => ?_
          go_wp2_with fail
          rw [show (u : Int) + (q : Int) = ((u + q : Nat) : Int) by omega]
          refine (sevens_any (u + q) _ m1).mono ?_
          rintro e w3 ⟨rfl, hx3⟩
          have hx03 : Ext wr w3 := ((Ext.refl wr).drew).trans hx3
          go_wp2
          refine hK.out _ _ trivial ?_
          clear hK K
          refine wpAnyX_one (j := 6) rfl (by kernel_rfl) rfl fun K hK => ?_
          go_wp2
          refine hK.out _ _ trivial ?_
          clear hK K
          refine wpAnyX_end [] [] rfl (by intro j i hj; simp at hj) (by kernel_rfl) (by intro i hi; simp at hi) fun K hK => ?_
          go_wp2
          refine hK.out _ _ ?_
          clear hK K
          go_wp2
          go_ret2
          exact ⟨u + q, k + 1, ret_two (by omega) (by omega), .inr ⟨by omega, by omega, unhide Hcut⟩, hx.trans hx03⟩
        · have hq : ((sevB (u + q)).toList == (s.extract 0 (k + 1)).toList) = false := by
            rw [bytes_toList, bytes_toList]
            simpa using fun h => he (bytes_ext h)
          have Hcut := hide hcut
          clear he hcut HI
          go_wp2_with fail
          refine wp_region_X (fun _ => True) (fun _ => false) (by kernel_rfl) ?_
          refine wpAnyX_take (i := 0) (v := .int .i64 ((u : Int) + q)) rfl (by kernel_rfl) (by kernel_rfl) (fun _ _ _ h => h) (.inl ⟨rfl, fun w' hS => by simp [execOp, go_sem]⟩) trivial ?_
          simp only [Act.put, List.setIfInBounds_toArray, List.set_cons_succ, List.set_cons_zero]
          refine wpAnyX_take (i := 2) (v := .string s) rfl (by kernel_rfl) (by kernel_rfl) (fun _ _ _ h => h) (.inl ⟨rfl, fun w' hS => by simp [execOp, go_sem]⟩) trivial ?_
          simp only [Act.put, List.setIfInBounds_toArray, List.set_cons_succ, List.set_cons_zero]
          refine wpAnyX_take (i := 3) (v := .int .i64 k) rfl (by kernel_rfl) (by kernel_rfl) (fun _ _ _ h => h) (.inl ⟨rfl, fun w' hS => by simp [execOp, go_sem]⟩) trivial ?_
          simp only [Act.put, List.setIfInBounds_toArray, List.set_cons_succ, List.set_cons_zero]
          refine wpAnyX_take (i := 4) (v := .int .i64 ((k : Int) + 1)) rfl (by kernel_rfl) (by kernel_rfl) (fun _ _ _ h => h) (.inl ⟨rfl, fun w' hS => by simp [execOp, go_sem, i64k]⟩) trivial ?_
          simp only [Act.put, List.setIfInBounds_toArray, List.set_cons_succ, List.set_cons_zero]
          refine wpAnyX_take (i := 5) (v := .string (s.extract 0 (k + 1))) rfl (by kernel_rfl) (by kernel_rfl) (fun _ _ _ h => h) (.inl ⟨rfl, fun w' hS => by simp [execOp, go_sem]; intro h; exfalso; have := h (by omega); omega⟩) trivial ?_
          simp only [Act.put, List.setIfInBounds_toArray, List.set_cons_succ, List.set_cons_zero]
          refine wpAnyX_one (j := 1) rfl (by kernel_rfl) rfl fun K hK => ?_
          go_wp2_with fail
          rw [show (u : Int) + (q : Int) = ((u + q : Nat) : Int) by omega]
          refine (sevens_any (u + q) _ m1).mono ?_
          rintro e w3 ⟨rfl, hx3⟩
          have hx03 : Ext wr w3 := ((Ext.refl wr).drew).trans hx3
          go_wp2
          refine hK.out _ _ trivial ?_
          clear hK K
          refine wpAnyX_one (j := 6) rfl (by kernel_rfl) rfl fun K hK => ?_
          go_wp2
          refine hK.out _ _ trivial ?_
          clear hK K
          refine wpAnyX_end [] [] rfl (by intro j i hj; simp at hj) (by kernel_rfl) (by intro i hi; simp at hi) fun K hK => ?_
          go_wp2
          refine hK.out _ _ ?_
          clear hK K
          go_wp2
          go_ret2
          exact ⟨0, 0, rfl, .inl ⟨rfl, unhide Hcut⟩, hx.trans hx03⟩
      · have HN := hide (hT.next h6 hsz hc1)
        rw [← unhide Hb, unhide Hq] at HN
        go_wp2
        exact ⟨⟨k + 1, u + q, b * 128, by omega, by omega, by go_num, by go_num, by go_num, by rw [unhide Hb, Nat.pow_succ], unhide HN, hx⟩, by simp [intOf]; omega⟩
    · have HN := hide (hT.none (by omega))
      go_wp2
      all_goals go_ret2
      all_goals exact ⟨0, 0, rfl, .inl ⟨rfl, unhide HN⟩, hx⟩
end Go.Proofs.YtmdpdgldmedebaaGreatDoor

namespace Go.Proofs.YtmdpdgldmedebaaGreatDoor
set_option linter.unusedSimpArgs false
set_option linter.unusedVariables false
open Go.RowKit

theorem decR_at {L : List UInt8} {at' n : Nat} {p : PartM} {r : Nat} (hL : L.length = n) (hat : at' < n) (hr : r ≤ n) (hc : cutP (L.drop at') = some (p, L.drop r)) (hg : goodB p = true) : decR (n - at') (L.drop at') = (decR (n - r) (L.drop r)).map (p :: ·) := by
  have h1 := decR_step (t := ⟨(L.drop at').toArray⟩) (p := p) (r := ⟨(L.drop r).toArray⟩) (by simpa using hc) hg
  have e1 : (ByteArray.mk (L.drop at').toArray).size = n - at' := by simp [ByteArray.size, hL]
  have e2 : (ByteArray.mk (L.drop r).toArray).size = n - r := by simp [ByteArray.size, hL]
  rw [e1, e2] at h1
  simpa using h1
theorem decR_at_no {L : List UInt8} {at' n : Nat} (hL : L.length = n) (hat : at' < n) (h : cutP (L.drop at') = none ∨ ∃ p r, cutP (L.drop at') = some (p, r) ∧ goodB p = false) : decR (n - at') (L.drop at') = none := by
  have e1 : (ByteArray.mk (L.drop at').toArray).size = n - at' := by simp [ByteArray.size, hL]
  have h1 := decR_fail (t := ⟨(L.drop at').toArray⟩) (fun e => by rw [e] at e1; simp [ByteArray.size] at e1; omega) (by simpa using h)
  rw [e1] at h1
  simpa using h1
end Go.Proofs.YtmdpdgldmedebaaGreatDoor

namespace Go.Proofs.YtmdpdgldmedebaaGreatDoor
set_option linter.unusedSimpArgs false
set_option linter.unusedVariables false
open Go.RowKit

theorem drop_drop' (L : List UInt8) (i j : Nat) : (L.drop i).drop j = L.drop (i + j) := by rw [List.drop_drop]
theorem unfold_even {x : Nat} (h : x % 2 = 0) : unfoldN x = ((x / 2 : Nat) : Int) := by
  unfold unfoldN; rw [if_neg (by omega)]; omega
theorem unfold_odd {x : Nat} (h : x % 2 = 1) : unfoldN x = -((x : Int) + 1) / 2 := by
  unfold unfoldN; rw [if_pos h]; omega

set_option maxHeartbeats 6400000 in
set_option maxRecDepth 10000 in
theorem decodeParts_any (s : ByteArray) (w : World) (hs : s.size ≤ 9223372036854775807) :
    Calls Tryz.prog 64 #[.string s] w fun e w' => ∃ sv : SV, e = .returned (.tuple #[.slice sv.a sv.len sv.cap, .int .i64 (decE s.data.toList)]) ∧ PartsAt w' sv (decL s.data.toList) ∧ sv.ok ∧ Ext w w' := by
  have hl := bytes_len s
  by_cases hlong : 20000 < s.size
  · obtain ⟨e1, e2⟩ := decE_long (l := s.data.toList) (by omega)
    rw [e1, e2]
    go_enter Tryz.func64, Tryz.ntmps64
    go_wp2
    go_ret2
    exact ⟨⟨none, 0, 0⟩, rfl, nil_parts _, nil_ok, Ext.refl _⟩
  · go_enter Tryz.func64, Tryz.ntmps64
    go_wp2
    go_loopw [4, 5] (fun o i wr => ∃ (k : Nat) (m : List PartM), i = .int .i64 k ∧ k ≤ s.size ∧ m.length ≤ k ∧ wr.ownsRow w.heap.size 85 4 o m.length (m.flatMap PartM.cells) ∧ decR s.size s.data.toList = (decR (s.size - k) (s.data.toList.drop k)).map (m ++ ·) ∧ Ext w wr) (fun _ i _ => s.size - (intOf i).toNat)
    case atStart => exact ⟨0, [], rfl, by omega, by simp, World.ownsRow_nil _ _ _ _, by simp, Ext.refl _⟩
    case round =>
      obtain ⟨k, m, rfl, hk, hmk, ho, hE, hx⟩ := hrel
      have HE := hide hE
      clear hE
      by_cases hlt : k < s.size
      · have hsz1 : (s.extract k s.size).size = s.size - k := size_extract_end s k
        have hd1 := hide (extract_end s k)
        go_wp2_with fail
        refine (seven_any (s.extract k s.size) _ (by omega)).mono ?_
        rintro e w1 ⟨hd, c1, rfl, hcut1, hx1⟩
        rw [hsz1, unhide hd1] at hcut1
        rcases hcut1 with ⟨rfl, hc1⟩ | ⟨hc11, hc12, hc1⟩
        · have e : Hid (decR s.data.toList.length s.data.toList = none) := by
            unfold Hid
            rw [hl, unhide HE, decR_at_no hl hlt (.inl (cutP_no1 hc1))]; rfl
          clear hc1
          go_wp2
          go_ret2
          obtain ⟨e1, e2⟩ := decE_none (by omega) (unhide e)
          rw [e1, e2]
          exact ⟨⟨none, 0, 0⟩, rfl, nil_parts _, nil_ok, hx.trans hx1⟩
        · have hsz2 : (s.extract (k + c1) s.size).size = s.size - (k + c1) := size_extract_end s (k + c1)
          have hd2 := hide (extract_end s (k + c1))
          rw [drop_drop'] at hc1
          have H1 := hide hc1
          have hhd := (sev_cut _ _ _ _ _ hc1).2.1
          rw [show (128 : Nat) ^ 6 = 4398046511104 by decide] at hhd
          clear hc1
          go_wp2_with fail
          refine (seven_any (s.extract (k + c1) s.size) _ (by omega)).mono ?_
          rintro e w2 ⟨x, c2, rfl, hcut2, hx2⟩
          have hx02 := hx1.trans hx2
          rw [hsz2, unhide hd2] at hcut2
          rcases hcut2 with ⟨rfl, hc2⟩ | ⟨hc21, hc22, hc2⟩
          · have e : Hid (decR s.data.toList.length s.data.toList = none) := by
              unfold Hid
              rw [hl, unhide HE, decR_at_no hl hlt (.inl (cutP_no2 (unhide H1) hc2))]; rfl
            clear hc2
            go_wp2
            go_ret2
            obtain ⟨e1, e2⟩ := decE_none (by omega) (unhide e)
            rw [e1, e2]
            exact ⟨⟨none, 0, 0⟩, rfl, nil_parts _, nil_ok, hx.trans hx02⟩
          · rw [drop_drop'] at hc2
            have H2 := hide hc2
            have hxx := (sev_cut _ _ _ _ _ hc2).2.1
            rw [show (128 : Nat) ^ 6 = 4398046511104 by decide] at hxx
            clear hc2
            obtain ⟨A, hA⟩ : ∃ A, k + c1 + c2 = A := ⟨_, rfl⟩
            have hAi : (k : Int) + ((c1 : Int) + (c2 : Int)) = (A : Int) := by omega
            have hAs : A ≤ s.size := by omega
            have hkA : k < A := by omega
            rw [hA] at H2
            obtain ⟨i, hi⟩ : ∃ i : Nat, hd / 4 = i := ⟨_, rfl⟩
            obtain ⟨kd, hkd⟩ : ∃ k : Nat, hd % 4 = k := ⟨_, rfl⟩
            have hii : (hd : Int) / 4 = (i : Int) := by omega
            have hki : (hd : Int) % 4 = (kd : Int) := by omega
            have hk3 : kd ≤ 3 := by omega
            have hi3 : i < 4398046511104 := by omega
            have Hi := hide hi
            have Hkd := hide hkd
            have HA := hide hA
            clear hi hkd hA
            by_cases hkz : kd = 0
            · subst hkz
              have HP := hide (cutP_num (unhide H1) (unhide H2) (unhide Hkd))
              rw [unhide Hi] at HP
              by_cases hev : x % 2 = 0
              · have hxe : (x : Int) % 2 = 0 := by omega
                have hpn := unfold_even hev
                obtain ⟨y, hy⟩ : ∃ y : Nat, x / 2 = y := ⟨_, rfl⟩
                have hyi : (x : Int) / 2 = (y : Int) := by omega
                rw [hpn, hy] at HP
                clear hpn hy hev
                obtain ⟨gb, hg⟩ : ∃ gb, goodB ⟨(i : Nat), 0, (y : Nat), ⟨#[]⟩⟩ = gb := ⟨_, rfl⟩
                have hxB : Ext w2 (w2.alloc (.cells #[.int .i64 (i : Nat), .int .i64 0, .int .i64 (y : Nat), .string ⟨#[]⟩] 85)) := (Ext.refl _).alloc _
                have hB := heap_alloc_new w2 (.cells #[.int .i64 (i : Nat), .int .i64 0, .int .i64 (y : Nat), .string ⟨#[]⟩] 85)
                have Hip := hide (isPart_any ⟨(i : Nat), 0, (y : Nat), ⟨#[]⟩⟩ (w2.alloc (.cells #[.int .i64 (i : Nat), .int .i64 0, .int .i64 (y : Nat), .string ⟨#[]⟩] 85)) (Nat.zero_le _))
                rw [hg] at Hip
                go_wp2_with fail
                refine (unhide Hip).mono ?_
                rintro e w5 ⟨rfl, hx5⟩
                have hB5 := hx5.heap hB
                have hx05 : Ext wr w5 := (hx02.trans hxB).trans hx5
                cases gb
                · have e : Hid (decR s.data.toList.length s.data.toList = none) := by
                    unfold Hid
                    rw [hl, unhide HE, decR_at_no hl hlt (.inr ⟨_, _, unhide HP, hg⟩)]; rfl
                  go_wp2
                  go_ret2
                  obtain ⟨e1, e2⟩ := decE_none (by omega) (unhide e)
                  rw [e1, e2]
                  exact ⟨⟨none, 0, 0⟩, rfl, nil_parts _, nil_ok, hx.trans hx05⟩
                · have e : Hid (decR s.size s.data.toList = (decR (s.size - (A)) (s.data.toList.drop (A))).map ((m ++ [⟨(i : Nat), 0, (y : Nat), ⟨#[]⟩⟩]) ++ ·)) := by
                    unfold Hid
                    rw [unhide HE, decR_at hl hlt hAs (unhide HP) hg, Option.map_map]
                    congr 1
                    funext q
                    simp
                  have ho2 := owns_ext ho hx05
                  have hz2 : w.heap.size ≤ w5.heap.size := (hx.trans hx05).size
                  have Hml : Hid (m.length < 1048576) := by unfold Hid; omega
                  obtain ⟨d0, d1, d2, d3, df⟩ := row4 hB5
                  go_wp2_with (at_builtin; refine wpList_app1 _ _ 83 85 (.agg #[.int .i64 0, .int .i64 0, .int .i64 0, .string ⟨#[]⟩]) 4 40 Tryz.underlying83 info27 rfl (by decide) (by decide) rfl rfl w.heap.size _ m.length _ rfl (ho2.alloc _) w5.heap.size 1 (PartM.cells ⟨(i : Nat), 0, (y : Nat), ⟨#[]⟩⟩) rfl rfl ?c1 ?c2 ?c3 ?c4 ?_)
                  case c1 => exact range_of_new4 _ _ _ _ _ _ (by simp)
                  case c2 => exact one_part ⟨(i : Nat), 0, (y : Nat), ⟨#[]⟩⟩
                  case c3 => exact Hml
                  case c4 => simp; omega
                  intro v6 w6 ho6 hg6
                  have ho6' : w6.ownsRow w.heap.size 85 4 v6 (m ++ [(⟨(i : Nat), 0, (y : Nat), ⟨#[]⟩⟩ : PartM)]).length ((m ++ [(⟨(i : Nat), 0, (y : Nat), ⟨#[]⟩⟩ : PartM)]).flatMap PartM.cells) := by
                    rw [List.length_append, List.length_singleton, List.flatMap_append]
                    simpa using ho6
                  have hx6 : Ext w w6 := Ext.owned ((hx.trans hx05).alloc _) hg6 (ho2.alloc _) (Nat.le_refl _)
                  go_wp2
                  go_roundw
                  case rel => exact ⟨A, m ++ [(⟨(i : Nat), 0, (y : Nat), ⟨#[]⟩⟩ : PartM)], by go_num, hAs, by simp; omega, ho6', unhide e, hx6⟩
                  case measure => simp [intOf]; omega
              · have hxo : (x : Int) % 2 = 1 := by omega
                have hpn := unfold_odd (x := x) (by omega)
                obtain ⟨z, hz⟩ : ∃ z : Int, -((x : Int) + 1) / 2 = z := ⟨_, rfl⟩
                have hzt : (-((x : Int) + 1)).tdiv 2 = z := by
                  rw [← hz, Int.neg_tdiv, Int.tdiv_eq_ediv_of_nonneg (by omega)]; omega
                have hz1 : -4398046511104 ≤ z := by omega
                have hz2 : z ≤ 4398046511104 := by omega
                rw [hpn, hz] at HP
                clear hpn hz hev
                obtain ⟨gb, hg⟩ : ∃ gb, goodB ⟨(i : Nat), 0, z, ⟨#[]⟩⟩ = gb := ⟨_, rfl⟩
                have hxB : Ext w2 (w2.alloc (.cells #[.int .i64 (i : Nat), .int .i64 0, .int .i64 z, .string ⟨#[]⟩] 85)) := (Ext.refl _).alloc _
                have hB := heap_alloc_new w2 (.cells #[.int .i64 (i : Nat), .int .i64 0, .int .i64 z, .string ⟨#[]⟩] 85)
                have Hip := hide (isPart_any ⟨(i : Nat), 0, z, ⟨#[]⟩⟩ (w2.alloc (.cells #[.int .i64 (i : Nat), .int .i64 0, .int .i64 z, .string ⟨#[]⟩] 85)) (Nat.zero_le _))
                rw [hg] at Hip
                go_wp2_with fail
                refine (unhide Hip).mono ?_
                rintro e w5 ⟨rfl, hx5⟩
                have hB5 := hx5.heap hB
                have hx05 : Ext wr w5 := (hx02.trans hxB).trans hx5
                cases gb
                · have e : Hid (decR s.data.toList.length s.data.toList = none) := by
                    unfold Hid
                    rw [hl, unhide HE, decR_at_no hl hlt (.inr ⟨_, _, unhide HP, hg⟩)]; rfl
                  go_wp2
                  go_ret2
                  obtain ⟨e1, e2⟩ := decE_none (by omega) (unhide e)
                  rw [e1, e2]
                  exact ⟨⟨none, 0, 0⟩, rfl, nil_parts _, nil_ok, hx.trans hx05⟩
                · have e : Hid (decR s.size s.data.toList = (decR (s.size - (A)) (s.data.toList.drop (A))).map ((m ++ [⟨(i : Nat), 0, z, ⟨#[]⟩⟩]) ++ ·)) := by
                    unfold Hid
                    rw [unhide HE, decR_at hl hlt hAs (unhide HP) hg, Option.map_map]
                    congr 1
                    funext q
                    simp
                  have ho2 := owns_ext ho hx05
                  have hz2 : w.heap.size ≤ w5.heap.size := (hx.trans hx05).size
                  have Hml : Hid (m.length < 1048576) := by unfold Hid; omega
                  obtain ⟨d0, d1, d2, d3, df⟩ := row4 hB5
                  go_wp2_with (at_builtin; refine wpList_app1 _ _ 83 85 (.agg #[.int .i64 0, .int .i64 0, .int .i64 0, .string ⟨#[]⟩]) 4 40 Tryz.underlying83 info27 rfl (by decide) (by decide) rfl rfl w.heap.size _ m.length _ rfl (ho2.alloc _) w5.heap.size 1 (PartM.cells ⟨(i : Nat), 0, z, ⟨#[]⟩⟩) rfl rfl ?c1 ?c2 ?c3 ?c4 ?_)
                  case c1 => exact range_of_new4 _ _ _ _ _ _ (by simp)
                  case c2 => exact one_part ⟨(i : Nat), 0, z, ⟨#[]⟩⟩
                  case c3 => exact Hml
                  case c4 => simp; omega
                  intro v6 w6 ho6 hg6
                  have ho6' : w6.ownsRow w.heap.size 85 4 v6 (m ++ [(⟨(i : Nat), 0, z, ⟨#[]⟩⟩ : PartM)]).length ((m ++ [(⟨(i : Nat), 0, z, ⟨#[]⟩⟩ : PartM)]).flatMap PartM.cells) := by
                    rw [List.length_append, List.length_singleton, List.flatMap_append]
                    simpa using ho6
                  have hx6 : Ext w w6 := Ext.owned ((hx.trans hx05).alloc _) hg6 (ho2.alloc _) (Nat.le_refl _)
                  go_wp2
                  go_roundw
                  case rel => exact ⟨A, m ++ [(⟨(i : Nat), 0, z, ⟨#[]⟩⟩ : PartM)], by go_num, hAs, by simp; omega, ho6', unhide e, hx6⟩
                  case measure => simp [intOf]; omega
            · have HP1 := fun hl => hide (cutP_long (unhide H1) (unhide H2) (by rw [unhide Hkd]; exact hkz) hl)
              have HP2 := fun hl => hide (cutP_text (unhide H1) (unhide H2) (by rw [unhide Hkd]; exact hkz) hl)
              rw [List.length_drop, hl] at HP1 HP2
              by_cases hlx : s.size - A < x
              · have HP := HP1 hlx
                clear HP1 HP2
                have e : Hid (decR s.data.toList.length s.data.toList = none) := by
                  unfold Hid
                  rw [hl, unhide HE, decR_at_no hl hlt (.inl (unhide HP))]; rfl
                go_wp2
                go_ret2
                obtain ⟨e1, e2⟩ := decE_none (by omega) (unhide e)
                rw [e1, e2]
                exact ⟨⟨none, 0, 0⟩, rfl, nil_parts _, nil_ok, hx.trans (hx02.alloc _)⟩
              · have HP := HP2 hlx
                clear HP1 HP2
                have hAx : A + x ≤ s.size := by omega
                have hex : (⟨((s.data.toList.drop A).take x).toArray⟩ : ByteArray) = s.extract A (A + x) := by
                  apply bytes_ext
                  rw [extract_data]; simp
                rw [drop_drop', unhide Hi, unhide Hkd, hex] at HP
                have hexs : (s.extract A (A + x)).size ≤ 9223372036854775807 := by
                  rw [← bytes_len, extract_data, List.length_take]; omega
                clear hex
                have hslc : ∀ u : World, (Instr.slice 9 (.string s) (some (.int .i64 (A : Int))) (some (.int .i64 ((A : Int) + (x : Int)))) none).run Tryz.prog u = .ok (.string (s.extract A (A + x))) u := fun u => by
                  have h := run_slice_string (P := Tryz.prog) (w := u) 9 s .i64 .i64 (A : Int) ((A : Int) + (x : Int)) Tryz.underlying9 (by omega) (by omega) (by omega)
                  have e1 : ((A : Int)).toNat = A := by omega
                  have e2 : ((A : Int) + (x : Int)).toNat = A + x := by omega
                  rw [e1, e2] at h
                  exact h
                obtain ⟨gb, hg⟩ : ∃ gb, goodB ⟨(i : Nat), (kd : Nat), 0, s.extract A (A + x)⟩ = gb := ⟨_, rfl⟩
                have hxB : Ext w2 (w2.alloc (.cells #[.int .i64 (i : Nat), .int .i64 (kd : Nat), .int .i64 0, .string (s.extract A (A + x))] 85)) := (Ext.refl _).alloc _
                have hB := heap_alloc_new w2 (.cells #[.int .i64 (i : Nat), .int .i64 (kd : Nat), .int .i64 0, .string (s.extract A (A + x))] 85)
                have Hip := hide (isPart_any ⟨(i : Nat), (kd : Nat), 0, s.extract A (A + x)⟩ (w2.alloc (.cells #[.int .i64 (i : Nat), .int .i64 (kd : Nat), .int .i64 0, .string (s.extract A (A + x))] 85)) hexs)
                rw [hg] at Hip
                go_wp2_with fail
                refine (unhide Hip).mono ?_
                rintro e w5 ⟨rfl, hx5⟩
                have hB5 := hx5.heap hB
                have hx05 : Ext wr w5 := (hx02.trans hxB).trans hx5
                cases gb
                · have e : Hid (decR s.data.toList.length s.data.toList = none) := by
                    unfold Hid
                    rw [hl, unhide HE, decR_at_no hl hlt (.inr ⟨_, _, unhide HP, hg⟩)]; rfl
                  go_wp2
                  go_ret2
                  obtain ⟨e1, e2⟩ := decE_none (by omega) (unhide e)
                  rw [e1, e2]
                  exact ⟨⟨none, 0, 0⟩, rfl, nil_parts _, nil_ok, hx.trans hx05⟩
                · have e : Hid (decR s.size s.data.toList = (decR (s.size - (A + x)) (s.data.toList.drop (A + x))).map ((m ++ [⟨(i : Nat), (kd : Nat), 0, s.extract A (A + x)⟩]) ++ ·)) := by
                    unfold Hid
                    rw [unhide HE, decR_at hl hlt hAx (unhide HP) hg, Option.map_map]
                    congr 1
                    funext q
                    simp
                  have ho2 := owns_ext ho hx05
                  have hz2 : w.heap.size ≤ w5.heap.size := (hx.trans hx05).size
                  have Hml : Hid (m.length < 1048576) := by unfold Hid; omega
                  obtain ⟨d0, d1, d2, d3, df⟩ := row4 hB5
                  go_wp2_with (at_builtin; refine wpList_app1 _ _ 83 85 (.agg #[.int .i64 0, .int .i64 0, .int .i64 0, .string ⟨#[]⟩]) 4 40 Tryz.underlying83 info27 rfl (by decide) (by decide) rfl rfl w.heap.size _ m.length _ rfl (ho2.alloc _) w5.heap.size 1 (PartM.cells ⟨(i : Nat), (kd : Nat), 0, s.extract A (A + x)⟩) rfl rfl ?c1 ?c2 ?c3 ?c4 ?_)
                  case c1 => exact range_of_new4 _ _ _ _ _ _ (by simp)
                  case c2 => exact one_part ⟨(i : Nat), (kd : Nat), 0, s.extract A (A + x)⟩
                  case c3 => exact Hml
                  case c4 => simp; omega
                  intro v6 w6 ho6 hg6
                  have ho6' : w6.ownsRow w.heap.size 85 4 v6 (m ++ [(⟨(i : Nat), (kd : Nat), 0, s.extract A (A + x)⟩ : PartM)]).length ((m ++ [(⟨(i : Nat), (kd : Nat), 0, s.extract A (A + x)⟩ : PartM)]).flatMap PartM.cells) := by
                    rw [List.length_append, List.length_singleton, List.flatMap_append]
                    simpa using ho6
                  have hx6 : Ext w w6 := Ext.owned ((hx.trans hx05).alloc _) hg6 (ho2.alloc _) (Nat.le_refl _)
                  go_wp2
                  go_roundw
                  case rel => exact ⟨A + x, m ++ [(⟨(i : Nat), (kd : Nat), 0, s.extract A (A + x)⟩ : PartM)], by go_num, hAx, by simp; omega, ho6', unhide e, hx6⟩
                  case measure => simp [intOf]; omega
      · have e : Hid (decR s.data.toList.length s.data.toList = some m) := by
          unfold Hid
          rw [hl, unhide HE, List.drop_of_length_le (by omega)]
          simp [decR]
        obtain ⟨sv, rfl, hsl⟩ := sliceAt_of_owns PartM.cells (fun _ => rfl) ho rfl
        go_wp2
        go_ret2
        obtain ⟨e1, e2⟩ := decE_some (by omega) (unhide e)
        rw [e1, e2]
        exact ⟨sv, rfl, hsl, ok_of_owns ho, hx⟩
end Go.Proofs.YtmdpdgldmedebaaGreatDoor

