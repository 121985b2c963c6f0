import Derived.Test.YtgobejbboeeieaaA12
namespace Go.Proofs.Ytgobejbboeeieaa
set_option linter.unusedSimpArgs false
set_option linter.unusedVariables false
open Go.RowKit

theorem parts_len : ∀ ps : List PartM, ps.length ≤ (ps.flatMap partB).length
  | [] => by simp
  | p :: r => by
    rw [List.flatMap_cons, List.length_append, List.length_cons]
    have h1 := parts_len r
    have h2 : 1 ≤ (partB p).length := by
      unfold partB
      have := sev_ne (headN p)
      rw [List.length_append]; omega
    omega
theorem decL_small (l : List UInt8) : (∀ p ∈ decL l, p.s.size ≤ 20000) ∧ (decL l).length ≤ 20000 := by
  by_cases hl : 20000 < l.length
  · rw [(decE_long hl).2]; exact ⟨fun p hp => absurd hp List.not_mem_nil, by simp⟩
  · cases hd : decR l.length l with
    | none => rw [(decE_none (by omega) hd).2]; exact ⟨fun p hp => absurd hp List.not_mem_nil, by simp⟩
    | some ps =>
      rw [(decE_some (by omega) hd).2]
      obtain ⟨h1, h2⟩ := enc_dec _ _ _ hd
      refine ⟨fun p hp => ?_, ?_⟩
      · obtain ⟨_, _, h⟩ := h1 p hp
        rcases h with ⟨_, _, _, h⟩ | ⟨_, _, h⟩
        · rw [h]; exact Nat.zero_le _
        · exact h
      · have := parts_len ps
        rw [← h2] at this; omega

set_option maxHeartbeats 1600000 in
theorem wireOnly_walk (s : ByteArray) (w : World) (hs : s.size ≤ 9223372036854775807) :
    Calls Try.prog 6 #[.string s] w fun e w' => e = .returned (.bool true) ∧ Ext w w' := by
  have HO := hide (only_pure s)
  have HD := hide (decL_err s.data.toList)
  have Hd := hide (decode_any s w hs)
  obtain ⟨er, her⟩ : ∃ er, decE s.data.toList = er := ⟨_, rfl⟩
  obtain ⟨ps, hps⟩ : ∃ ps, decL s.data.toList = ps := ⟨_, rfl⟩
  have hsm := decL_small s.data.toList
  rw [her, hps] at HO HD Hd
  rw [hps] at hsm
  have hst : ∀ p ∈ ps, p.s.size ≤ 9223372036854775807 := fun p hp => Nat.le_trans (hsm.1 p hp) (by decide)
  have hn : ps.length ≤ 9223372036854775807 := Nat.le_trans hsm.2 (by decide)
  clear hsm
  clear her hps
  have Hst := hide hst
  clear hst
  go_enter Try.func6, Try.ntmps6
  go_wp2_with fail
  refine (unhide Hd).mono ?_
  rintro e w1 ⟨sv, rfl, hsl, hok, hx1⟩
  cases hz : (er == 0)
  · have hne : er ≠ 0 := by simpa using hz
    have hp : ps = [] := (unhide HD).resolve_left hne
    have hl0 : sv.len = 0 := by rw [hsl.1, hp]; rfl
    have hnd : decide (er = 0) = false := by simpa using hz
    clear hp HO HD Hst Hd
    go_wp2_with (go_at_call 15; refine (wires_any _).mono ?_; rintro e w2 ⟨rfl, hx2⟩)
    go_ret
    exact ⟨rfl, hx1.trans hx2⟩
  · have e0 : er = 0 := by simpa using hz
    subst e0
    obtain ⟨h1, h2⟩ := unhide HO rfl
    clear hz HO HD
    go_wp2_with fail
    refine (wires_any _).mono ?_
    rintro e w2 ⟨rfl, hx2⟩
    go_wp2_with fail
    refine (encode_any sv ps _ (hsl.ext hx2) hn (unhide Hst)).mono ?_
    rintro e w3 ⟨rfl, hx3⟩
    rw [h1, h2]
    clear h1 h2 Hst Hd
    go_wp2
    go_ret
    exact ⟨ret_bool (by simp), (hx1.trans hx2).trans hx3⟩

set_option maxHeartbeats 3200000 in
theorem wireBack_walk (s : SV) (ps : List PartM) (w : World) (hs : PartsAt w s ps) (hn : ps.length ≤ 9223372036854775807) (hst : ∀ p ∈ ps, p.s.size ≤ 9223372036854775807) :
    Calls Try.prog 5 #[.slice s.a s.len s.cap] w fun e w' => e = .returned (.bool true) ∧ Ext w w' := by
  have HB := hide (back_pure ps)
  have HE := hide (encS_err ps)
  have Hd := hide (encode_any s ps w hs hn hst)
  obtain ⟨er, her⟩ : ∃ er, encE ps = er := ⟨_, rfl⟩
  obtain ⟨t, ht⟩ : ∃ t, encS ps = t := ⟨_, rfl⟩
  rw [her, ht] at HB HE Hd
  clear her ht hst
  cases hz : (er == 0)
  · have hne : er ≠ 0 := by simpa using hz
    have hp : t = ⟨#[]⟩ := (unhide HE).resolve_left hne
    subst hp
    have hnd : decide (er = 0) = false := by simpa using hz
    clear HB HE
    go_enter Try.func5, Try.ntmps5
    go_wp2_with fail
    refine (unhide Hd).mono ?_
    rintro e w1 ⟨rfl, hx1⟩
    go_wp2_with (go_at_call 15; refine (wires_any _).mono ?_; rintro e w2 ⟨rfl, hx2⟩)
    go_ret
    exact ⟨rfl, hx1.trans hx2⟩
  · have e0 : er = 0 := by simpa using hz
    subst e0
    obtain ⟨h1, h2, h3⟩ := unhide HB rfl
    clear hz HB HE
    have Hdc := fun w => hide (decode_any t w (Nat.le_trans h1 (by decide)))
    rw [h2, h3] at Hdc
    clear h1 h2 h3
    obtain ⟨a, n, cap⟩ := s
    have hl := hs.1
    simp only at hl
    subst hl
    go_enter Try.func5, Try.ntmps5
    go_wp2_with fail
    refine (unhide Hd).mono ?_
    rintro e w1 ⟨rfl, hx1⟩
    go_wp2_with fail
    refine (wires_any _).mono ?_
    rintro e w2 ⟨rfl, hx2⟩
    go_wp2_with fail
    refine (unhide (Hdc _)).mono ?_
    rintro e w3 ⟨⟨a', n', cap'⟩, rfl, hs', hok, hx3⟩
    have hx03 := (hx1.trans hx2).trans hx3
    have hl' := hs'.1
    simp only at hl'
    subst hl'
    have F1 := hide (hs.ext hx03).2
    have F2 := hide hs'.2
    clear Hd Hdc hs hs'
    go_wp2
    go_loopw [40] (fun i wr => ∃ k : Nat, k ≤ ps.length ∧ i = .int .i64 k ∧ Ext w3 wr) (fun i _ => ps.length - (intOf i).toNat)
    case atStart => exact ⟨0, by omega, rfl, Ext.refl _⟩
    case round =>
      obtain ⟨k, hk, rfl, hx⟩ := hrel
      by_cases hlt : k < ps.length
      · obtain ⟨b, o, cs, ha, hr, rfl⟩ := (unhide F1) k ps[k] (by simp [hlt])
        obtain ⟨b', o', cs', ha', hr', rfl⟩ := (unhide F2) k ps[k] (by simp [hlt])
        subst ha ha'
        obtain ⟨f0, f1, f2, f3⟩ := range4 (hx.range hr)
        obtain ⟨g0, g1, g2, g3⟩ := range4 (hx.range hr')
        generalize ps[k] = f at *
        clear F1 F2 hr hr'
        go_wp2_with fail
        go_quiet (fail)
        go_wp2
        exact ⟨⟨k + 1, by omega, by go_num, hx.drewN _⟩, by simp [intOf]; omega⟩
      · go_wp2
        go_ret
        exact ⟨rfl, hx03.trans hx⟩
end Go.Proofs.Ytgobejbboeeieaa
