import Derived.Test.YtgobejbboeeieaaA6
import Derived.Laws.IdiomStrings
import Derived.Laws.BytesArg
namespace Go.Proofs.Ytgobejbboeeieaa
set_option linter.unusedSimpArgs false
set_option linter.unusedVariables false
open Go.RowKit

theorem conv_own {w : World} {base : Nat} {v : Value} {l : List UInt8} (ho : w.ownsRow base 5 1 v l.length (bcells l)) : (convert 35 9 v).run Try.prog w = .ok (.string ⟨l.toArray⟩) w := by
  rcases ho.2 with ⟨rfl, h0⟩ | ⟨g, cap, cur, rfl, _, hg, hc, hm, hs, ht⟩
  · have : l = [] := List.length_eq_zero_iff.1 h0
    subst this
    exact run_convert_bytes_nil (P := Try.prog) _ 35 5 Try.underlying35 Try.underlying5 0 0 9 Try.underlying9
  · refine run_convert_bytes_back w 35 9 5 ⟨g, 0, none⟩ cap l Try.underlying35 Try.underlying5 Try.underlying9 fun j hj => ?_
    rw [Addr.add_mid, cell_of_row w g _ cur 5 _ hg, Nat.zero_add]
    have key : (bcells l)[j]? = some (.int .u8 (l[j].toNat : Int)) := by simp [bcells, hj]
    rw [← ht, List.getElem?_take, if_pos (by omega)] at key
    simpa using key

theorem drop_cons {α : Type} {l : List α} {k : Nat} (h : k < l.length) : l.drop k = l[k] :: l.drop (k + 1) := List.drop_eq_getElem_cons h
theorem encR_good {acc : List UInt8} {p : PartM} {r : List PartM} (h : goodB p = true) (h2 : (acc ++ partB p).length ≤ 20000) : encR acc (p :: r) = encR (acc ++ partB p) r := by
  rw [encR, if_pos h, if_neg (by omega)]
theorem encR_long {acc : List UInt8} {p : PartM} {r : List PartM} (h : goodB p = true) (h2 : 20000 < (acc ++ partB p).length) : encR acc (p :: r) = (7, []) := by
  rw [encR, if_pos h, if_pos h2]
theorem encR_bad {acc : List UInt8} {p : PartM} {r : List PartM} (h : goodB p = false) : encR acc (p :: r) = (1, []) := by
  rw [encR, if_neg (by simp [h])]

theorem owns_slice {w : World} {base : Nat} {e : TypeId} {size : Nat} {v : Value} {n : Nat} {xs : List Value} (h : w.ownsRow base e size v n xs) : ∃ (a : Option Addr) (c : Nat), v = .slice a n c := by
  rcases h.2 with ⟨rfl, rfl⟩ | ⟨g, cap, cur, rfl, _⟩
  · exact ⟨none, 0, rfl⟩
  · exact ⟨_, cap, rfl⟩
/-- The bytes that Encode answers, and its error. -/
def encS (ps : List PartM) : ByteArray := ⟨(encR [] ps).2.toArray⟩
def encE (ps : List PartM) : Int := (encR [] ps).1
theorem enc_is {ps : List PartM} {e : Int} {l : List UInt8} (h : encR [] ps = (e, l)) : Ending.returned (.tuple #[.string ⟨l.toArray⟩, .int .i64 e]) = .returned (.tuple #[.string (encS ps), .int .i64 (encE ps)]) := by
  unfold encS encE; rw [h]

set_option maxHeartbeats 3200000 in
set_option maxRecDepth 10000 in
theorem encode_any (s : SV) (ps : List PartM) (w : World) (hs : PartsAt w s ps) (hn : ps.length ≤ 9223372036854775807) (hst : ∀ p ∈ ps, p.s.size ≤ 9223372036854775807) :
    Calls Try.prog 7 #[.slice s.a s.len s.cap] w fun e w' => e = .returned (.tuple #[.string (encS ps), .int .i64 (encE ps)]) ∧ Ext w w' := by
  obtain ⟨a, n, cap⟩ := s
  obtain ⟨hl, hps⟩ := hs
  simp only at hl
  subst hl
  show Calls Try.prog 7 #[.slice a ps.length cap] w _
  go_enter Try.func7, Try.ntmps7
  go_wp2
  go_loopw [4, 9] (fun o i wr => ∃ (k : Nat) (l : List UInt8), i = .int .i64 k ∧ k ≤ ps.length ∧ wr.ownsRow w.heap.size 5 1 o l.length (bcells l) ∧ encR [] ps = encR l (ps.drop k) ∧ l.length ≤ 20000 ∧ Ext w wr) (fun _ i _ => ps.length - (intOf i).toNat)
  case atStart => exact ⟨0, [], rfl, by omega, World.ownsRow_nil _ _ _ _, by simp, by simp, Ext.refl _⟩
  case round =>
    obtain ⟨k, l, rfl, hk, ho, hE, hll, hx⟩ := hrel
    have HE := hide hE
    clear hE
    by_cases hlt : k < ps.length
    · obtain ⟨b, o, cs, rfl, hr, hcs⟩ := hps k ps[k] (by simp [hlt])
      have hsk := hst ps[k] (List.getElem_mem hlt)
      have HD := hide (drop_cons hlt)
      obtain ⟨p, hp⟩ : ∃ p, ps[k] = p := ⟨_, rfl⟩
      rw [hp] at hcs hsk HD
      subst hcs
      clear hp hps hst
      obtain ⟨c0, c1, c2, c3⟩ := range4 (hx.range hr)
      obtain ⟨gb, hg⟩ : ∃ gb, goodB p = gb := ⟨_, rfl⟩
      have hx0 : Ext wr (wr.alloc (.cells #[.int .i64 p.id, .int .i64 p.kind, .int .i64 p.n, .string p.s] 27)) := (Ext.refl _).alloc _
      have hA0 := heap_alloc_new wr (.cells #[.int .i64 p.id, .int .i64 p.kind, .int .i64 p.n, .string p.s] 27)
      have Hga := hide (good_any p (wr.alloc (.cells #[.int .i64 p.id, .int .i64 p.kind, .int .i64 p.n, .string p.s] 27)) hsk)
      rw [hg] at Hga
      go_wp2_with fail
      refine (unhide Hga).mono ?_
      rintro e w1 ⟨rfl, hx1⟩
      cases gb
      · have e : Hid (encR [] ps = (1, [])) := by
          unfold Hid
          rw [unhide HE, unhide HD, encR_bad hg]
        go_wp2
        go_ret2
        exact ⟨enc_is (unhide e), (hx.trans hx0).trans hx1⟩
      · have hx01 := hx0.trans hx1
        have hA1 := hx1.heap hA0
        obtain ⟨d0, d1, d2, d3, df⟩ := row4 hA1
        have hgp := goodB_true.1 hg
        have hz1 : w.heap.size ≤ w1.heap.size := (hx.trans hx01).size
        go_wp2_with fail
        refine (appendPart_any w.heap.size u4 l p w1 (owns_ext ho hx01) hz1 hll hgp).mono ?_
        rintro e w2 ⟨v2, rfl, ho2, hb2, hk2⟩
        obtain ⟨a2, c2', rfl⟩ := owns_slice ho2
        have hx2 : Ext w w2 := Below.trans (hx.trans hx01) hb2
        have hpl := part_len hgp
        have hlm : (l ++ partB p).length ≤ 40020 := by rw [List.length_append]; omega
        obtain ⟨l2, hl2⟩ : ∃ l2, l ++ partB p = l2 := ⟨_, rfl⟩
        by_cases hlong : 20000 < l2.length
        · have e : Hid (encR [] ps = (7, [])) := by
            unfold Hid
            rw [unhide HE, unhide HD, encR_long hg (by rw [hl2]; exact hlong)]
          rw [hl2] at ho2 hlm ⊢
          clear hl2
          go_wp2
          go_ret2
          exact ⟨enc_is (unhide e), hx2⟩
        · have e : Hid (encR [] ps = encR l2 (ps.drop (k + 1))) := by
            unfold Hid
            rw [unhide HE, unhide HD, encR_good hg (by rw [hl2]; omega), hl2]
          rw [hl2] at ho2 hlm ⊢
          clear hl2
          go_wp2
          go_roundw
          case rel => exact ⟨k + 1, l2, by go_num, by omega, ho2, e, by omega, hx2⟩
          case measure => simp [intOf]; omega
    · have e : Hid (encR [] ps = (0, l)) := by
        unfold Hid
        rw [unhide HE, List.drop_of_length_le (by omega), encR]
      have hcv := conv_own ho
      go_wp2
      go_ret2
      exact ⟨enc_is (unhide e), hx⟩
end Go.Proofs.Ytgobejbboeeieaa
