import Derived.Test.YtgobejbboeeieaaA11
namespace Go.Proofs.Ytgobejbboeeieaa
set_option linter.unusedSimpArgs false
set_option linter.unusedVariables false
open Go.RowKit

def wiresM : List PartM := [⟨1, 0, -1, ⟨#[]⟩⟩, ⟨2, 1, 0, ⟨#[97]⟩⟩]
theorem wires_enc : encR [] wiresM = (0, [4, 1, 9, 1, 97]) := by rfl
theorem wires_encS : encS wiresM = ⟨#[4, 1, 9, 1, 97]⟩ ∧ encE wiresM = 0 := by unfold encS encE; rw [wires_enc]; exact ⟨rfl, rfl⟩

theorem wires_parts (w : World) : PartsAt (w.alloc (.cells #[.int .i64 1, .int .i64 0, .int .i64 (-1), .string ⟨#[]⟩, .int .i64 2, .int .i64 1, .int .i64 0, .string ⟨#[97]⟩] 27)) ⟨some ⟨w.heap.size, 0, none⟩, 2, 2⟩ wiresM := by
  have hA := heap_alloc_new w (.cells #[.int .i64 1, .int .i64 0, .int .i64 (-1), .string ⟨#[]⟩, .int .i64 2, .int .i64 1, .int .i64 0, .string ⟨#[97]⟩] 27)
  refine ⟨rfl, fun i p hp => ?_⟩
  match i, hp with
  | 0, hp =>
    simp only [wiresM, List.getElem?_cons_zero, Option.some.injEq] at hp
    subst hp
    exact ⟨w.heap.size, 0, _, rfl, World.rangeAt_of_block hA 0 4, rfl⟩
  | 1, hp =>
    simp only [wiresM, List.getElem?_cons_succ, List.getElem?_cons_zero, Option.some.injEq] at hp
    subst hp
    exact ⟨w.heap.size, 0, _, rfl, World.rangeAt_of_block hA 4 4, rfl⟩
  | i + 2, hp => simp [wiresM] at hp

set_option maxHeartbeats 1600000 in
theorem wires_any (w : World) : Calls Try.prog 15 #[] w fun e w' => e = .returned (.bool true) ∧ Ext w w' := by
  go_enter Try.func15, Try.ntmps15
  go_wp2_with fail
  refine (encode_any ⟨some ⟨w.heap.size, 0, none⟩, 2, 2⟩ wiresM _ (wires_parts w) (by decide) (by decide)).mono ?_
  rintro e w1 ⟨rfl, hx1⟩
  rw [wires_encS.1, wires_encS.2]
  go_wp2
  go_ret
  exact ⟨ret_bool (by decide), ((Ext.refl w).alloc _).trans hx1⟩

theorem back_pure (ps : List PartM) (h : encE ps = 0) : (encS ps).size ≤ 20000 ∧ decE (encS ps).data.toList = 0 ∧ decL (encS ps).data.toList = ps := by
  obtain ⟨t, ht⟩ : ∃ t, encR [] ps = (0, t) := by
    cases hh : encR [] ps with | mk a b => unfold encE at h; rw [hh] at h; simp only at h; subst h; exact ⟨b, rfl⟩
  have hS : (encS ps).data.toList = t := by unfold encS; rw [ht]
  obtain ⟨h1, h2, h3⟩ := encR_ok ps [] t ht
  have h4 := h3 (by simp)
  rw [List.nil_append] at h1
  rw [← bytes_len, hS]
  refine ⟨h4, ?_⟩
  exact decE_some h4 (by rw [h1]; exact dec_enc ps _ h2 (Nat.le_refl _))
theorem encS_err (ps : List PartM) : encE ps = 0 ∨ encS ps = ⟨#[]⟩ := by
  have key : ∀ (ps : List PartM) (acc : List UInt8), (encR acc ps).1 = 0 ∨ (encR acc ps).2 = [] := by
    intro ps
    induction ps with
    | nil => intro acc; left; rfl
    | cons p r ih =>
      intro acc
      rw [encR]
      split
      · split
        · right; rfl
        · exact ih _
      · right; rfl
  rcases key ps [] with h | h
  · exact .inl h
  · right; unfold encS; rw [h]
theorem only_pure (s : ByteArray) (h : decE s.data.toList = 0) : encE (decL s.data.toList) = 0 ∧ encS (decL s.data.toList) = s := by
  have hl : s.data.toList.length ≤ 20000 := by
    by_cases hl : 20000 < s.data.toList.length
    · rw [(decE_long hl).1] at h; simp at h
    · omega
  cases hd : decR s.data.toList.length s.data.toList with
  | none => rw [(decE_none hl hd).1] at h; simp at h
  | some ps =>
    rw [(decE_some hl hd).2]
    obtain ⟨h1, h2⟩ := enc_dec _ _ _ hd
    have h3 := encR_of ps [] h1 (by rw [List.nil_append, ← h2]; exact hl)
    rw [List.nil_append, ← h2] at h3
    unfold encE encS
    rw [h3]
    exact ⟨rfl, by apply bytes_ext; rfl⟩
theorem decL_err (l : List UInt8) : decE l = 0 ∨ decL l = [] := by
  by_cases hl : 20000 < l.length
  · exact .inr (decE_long hl).2
  · cases hd : decR l.length l with
    | none => exact .inr (decE_none (by omega) hd).2
    | some ps => exact .inl (decE_some (by omega) hd).1
end Go.Proofs.Ytgobejbboeeieaa
