import Derived.Test.YtgobejbboeeieaaA10
namespace Go.Proofs.Ytgobejbboeeieaa
set_option linter.unusedSimpArgs false
set_option linter.unusedVariables false
open Go.RowKit

theorem info27 : (Try.prog.info? 27).map (fun i => (i.zero, i.size, i.bytes)) = some (some (.agg #[.int .i64 0, .int .i64 0, .int .i64 0, .string ⟨#[]⟩]), 4, 40) := by kernel_rfl
theorem range_of_new4 (w : World) (u0 u1 u2 u3 : Value) (t : TypeId) {g : Nat} (hg : g = w.heap.size) : (w.alloc (.cells #[u0, u1, u2, u3] t)).rangeAt g 0 [u0, u1, u2, u3] := by
  subst hg
  exact World.rangeAt_of_block (heap_alloc_new w _) 0 4
theorem one_part (p : PartM) : ∀ u ∈ p.cells, u.oneCell' = true := by intro u hu; simp at hu; rcases hu with rfl | rfl | rfl | rfl <;> rfl

/-- What Decode answers: the error's number, and the parts. -/
def decE (l : List UInt8) : Int := if 20000 < l.length then 7 else match decR l.length l with | none => 1 | some _ => 0
def decL (l : List UInt8) : List PartM := if 20000 < l.length then [] else (decR l.length l).getD []
theorem decE_none {l : List UInt8} (hl : l.length ≤ 20000) (h : decR l.length l = none) : decE l = 1 ∧ decL l = [] := by
  unfold decE decL; rw [if_neg (by omega), if_neg (by omega), h]; exact ⟨rfl, rfl⟩
theorem decE_some {l : List UInt8} {ps : List PartM} (hl : l.length ≤ 20000) (h : decR l.length l = some ps) : decE l = 0 ∧ decL l = ps := by
  unfold decE decL; rw [if_neg (by omega), if_neg (by omega), h]; exact ⟨rfl, rfl⟩
theorem decE_long {l : List UInt8} (hl : 20000 < l.length) : decE l = 7 ∧ decL l = [] := by
  unfold decE decL; rw [if_pos hl, if_pos hl]; exact ⟨rfl, rfl⟩
def strLen : Value → Nat | .string t => t.size | _ => 0
theorem nil_parts (w : World) : PartsAt w ⟨none, 0, 0⟩ [] := ⟨rfl, fun i x hx => by simp at hx⟩
theorem nil_ok : SV.ok ⟨none, 0, 0⟩ := ⟨Nat.le_refl _, fun _ => rfl⟩
theorem decR_step {t : ByteArray} {p : PartM} {r : ByteArray} (hc : cutP t.data.toList = some (p, r.data.toList)) (hg : goodB p = true) : decR t.size t.data.toList = (decR r.size r.data.toList).map (p :: ·) := by
  have hlt := cutP_lt hc
  rw [bytes_len, bytes_len] at hlt
  have hl := bytes_len t
  cases hh : t.data.toList with
  | nil => rw [hh] at hl; simp at hl; omega
  | cons c l =>
    rw [hh] at hc hl
    simp only [List.length_cons] at hl
    rw [← hl, decR, hc]
    simp only
    rw [if_pos hg, decR_fuel l.length r.size r.data.toList (by rw [bytes_len]; omega) (by rw [bytes_len]; omega)]
theorem decR_fail {t : ByteArray} (hne : t ≠ ⟨#[]⟩) (h : cutP t.data.toList = none ∨ ∃ p r, cutP t.data.toList = some (p, r) ∧ goodB p = false) : decR t.size t.data.toList = none := by
  have hl := bytes_len t
  cases hh : t.data.toList with
  | nil => exact absurd (bytes_ext (by rw [hh])) hne
  | cons c l =>
    rw [hh] at h hl
    simp only [List.length_cons] at hl
    rw [← hl, decR]
    rcases h with h | ⟨p, r, h, hg⟩
    · rw [h]
    · rw [h]; simp only; rw [if_neg (by simp [hg])]

set_option maxHeartbeats 3200000 in
set_option maxRecDepth 10000 in
theorem decode_any (s : ByteArray) (w : World) (hs : s.size ≤ 9223372036854775807) :
    Calls Try.prog 12 #[.string s] w fun e w' => ∃ sv : SV, e = .returned (.tuple #[.slice sv.a sv.len sv.cap, .int .i64 (decE s.data.toList)]) ∧ PartsAt w' sv (decL s.data.toList) ∧ sv.ok ∧ Ext w w' := by
  have hl := bytes_len s
  by_cases hlong : 20000 < s.size
  · obtain ⟨e1, e2⟩ := decE_long (l := s.data.toList) (by omega)
    rw [e1, e2]
    go_enter Try.func12, Try.ntmps12
    go_wp2
    go_ret2
    exact ⟨⟨none, 0, 0⟩, rfl, nil_parts _, nil_ok, Ext.refl _⟩
  · go_enter Try.func12, Try.ntmps12
    go_wp2
    go_loopw [0, 4] (fun x o wr => ∃ (t : ByteArray) (m : List PartM), x = .string t ∧ m.length + t.size ≤ 20000 ∧ wr.ownsRow w.heap.size 27 4 o m.length (m.flatMap PartM.cells) ∧ decR s.size s.data.toList = (decR t.size t.data.toList).map (m ++ ·) ∧ Ext w wr) (fun x _ _ => strLen x)
    case atStart => exact ⟨s, [], rfl, by simp; omega, World.ownsRow_nil _ _ _ _, by simp, Ext.refl _⟩
    case round =>
      obtain ⟨t, m, rfl, hmt, ho, hE, hx⟩ := hrel
      have HE := hide hE
      clear hE
      by_cases hne : t = ⟨#[]⟩
      · have e : Hid (decR s.data.toList.length s.data.toList = some m) := by
          unfold Hid
          rw [hl, unhide HE, hne]; simp [decR, ByteArray.size]
        subst hne
        obtain ⟨sv, rfl, hsl⟩ := sliceAt_of_owns PartM.cells (fun _ => rfl) ho rfl
        go_wp2
        go_ret2
        obtain ⟨e1, e2⟩ := decE_some (by omega) (unhide e)
        rw [e1, e2]
        exact ⟨sv, rfl, hsl, ok_of_owns ho, hx⟩
      · have hne' : t.toList.isEmpty = false := by
          cases h : t.toList.isEmpty
          · rfl
          · exact absurd ((isEmpty_iff t).1 h) hne
        go_wp2_with fail
        refine (cutPart_any t _ (by omega)).mono ?_
        rintro e w1 ⟨p, r, ok, rfl, ht, hf, hps, hx1⟩
        have hx01 := hx.trans hx1
        have ho1 := owns_ext ho hx1
        cases ok
        · have e : Hid (decR s.data.toList.length s.data.toList = none) := by
            unfold Hid
            rw [hl, unhide HE, decR_fail hne (.inl (hf rfl))]; rfl
          clear ht hf
          go_wp2
          go_ret2
          obtain ⟨e1, e2⟩ := decE_none (by omega) (unhide e)
          rw [e1, e2]
          exact ⟨⟨none, 0, 0⟩, rfl, nil_parts _, nil_ok, hx01.alloc _⟩
        · have Hc := hide (ht rfl)
          clear ht hf
          obtain ⟨gb, hg⟩ : ∃ gb, goodB p = gb := ⟨_, rfl⟩
          have hxB : Ext w1 (w1.alloc (.cells #[.int .i64 p.id, .int .i64 p.kind, .int .i64 p.n, .string p.s] 27)) := (Ext.refl _).alloc _
          have hB := heap_alloc_new w1 (.cells #[.int .i64 p.id, .int .i64 p.kind, .int .i64 p.n, .string p.s] 27)
          have Hga := hide (good_any p (w1.alloc (.cells #[.int .i64 p.id, .int .i64 p.kind, .int .i64 p.n, .string p.s] 27)) (by omega))
          rw [hg] at Hga
          go_wp2_with fail
          refine (unhide Hga).mono ?_
          rintro e w2 ⟨rfl, hx2⟩
          have hB2 := hx2.heap hB
          have hx12 := hxB.trans hx2
          cases gb
          · have e : Hid (decR s.data.toList.length s.data.toList = none) := by
              unfold Hid
              rw [hl, unhide HE, decR_fail hne (.inr ⟨p, _, unhide Hc, hg⟩)]; rfl
            go_wp2
            go_ret2
            obtain ⟨e1, e2⟩ := decE_none (by omega) (unhide e)
            rw [e1, e2]
            exact ⟨⟨none, 0, 0⟩, rfl, nil_parts _, nil_ok, hx01.trans hx12⟩
          · have hlt := cutP_lt (unhide Hc)
            rw [bytes_len, bytes_len] at hlt
            have e : Hid (decR s.size s.data.toList = (decR r.size r.data.toList).map ((m ++ [p]) ++ ·)) := by
              unfold Hid
              rw [unhide HE, decR_step (unhide Hc) hg, Option.map_map]
              congr 1
              funext q
              simp
            have ho2 := owns_ext ho1 hx12
            have hz2 : w.heap.size ≤ w2.heap.size := (hx01.trans hx12).size
            have hml : m.length < 1048576 := by omega
            obtain ⟨c0, c1, c2, c3, cf⟩ := row4 hB2
            have Hml := hide hml
            clear hml
            go_wp2_with (at_builtin; refine wpList_app1 _ _ 22 27 (.agg #[.int .i64 0, .int .i64 0, .int .i64 0, .string ⟨#[]⟩]) 4 40 Try.underlying22 info27 rfl (by decide) (by decide) rfl rfl w.heap.size _ m.length _ rfl (ho2.alloc _) w2.heap.size 1 p.cells rfl rfl ?c1 ?c2 ?c3 ?c4 ?_)
            case c1 => exact range_of_new4 _ _ _ _ _ _ (by simp)
            case c2 => exact one_part p
            case c3 => exact Hml
            case c4 => simp; omega
            intro v5 w5 ho5 hg5
            have ho5' : w5.ownsRow w.heap.size 27 4 v5 (m ++ [p]).length ((m ++ [p]).flatMap PartM.cells) := by
              rw [List.length_append, List.length_singleton, List.flatMap_append]
              simpa using ho5
            have hx5 : Ext w w5 := Ext.owned ((hx01.trans hx12).alloc _) hg5 (ho2.alloc _) (Nat.le_refl _)
            go_wp2
            go_roundw
            case rel => exact ⟨r, m ++ [p], rfl, by simp; omega, ho5', e, hx5⟩
            case measure => simp [strLen]; omega
end Go.Proofs.Ytgobejbboeeieaa
