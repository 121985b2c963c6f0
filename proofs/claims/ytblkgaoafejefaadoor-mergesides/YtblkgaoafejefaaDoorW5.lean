import Derived.Test.YtblkgaoafejefaaDoorW4
import Derived.Test.YtblkgaoafejefaaDoorOwn
namespace Go.Proofs.YtblkgaoafejefaaDoor
set_option linter.unusedSimpArgs false
set_option linter.unusedVariables false
open Go.RowKit

def StrsAt (w : World) (s : SV) (l : List ByteArray) : Prop := SliceAt 1 (fun _ cs x => cs = [.string x]) w s l
theorem StrsAt.ext {w w' : World} {s : SV} {l : List ByteArray} (h : StrsAt w s l) (he : Ext w w') : StrsAt w' s l := SliceAt.ext h he fun _ _ h => h
theorem StrsAt.cell {w : World} {s : SV} {l : List ByteArray} (h : StrsAt w s l) {k : Nat} (hk : k < l.length) : ∃ b o, s.a = some ⟨b, o, none⟩ ∧ w.cell? ⟨b, o + k, none⟩ = some (.string l[k]) := by
  obtain ⟨b, o, cs, h1, h2, rfl⟩ := h.2 k l[k] (by simp [hk])
  have := range1 h2
  rw [Nat.mul_one] at this
  exact ⟨b, o, h1, this⟩

/-- slices.Contains on the first n of a list of texts. -/
theorem containsStr_any (s : SV) (l : List ByteArray) (n c : Nat) (x : ByteArray) (w : World) (hs : StrsAt w s l) (hn : n ≤ l.length) (hb : l.length ≤ 9223372036854775807) :
    Calls Tryd.prog 71 #[.slice s.a n c, .string x] w fun e w' => e = .returned (.bool (Lib.containsS (l.take n) x)) ∧ w' = w := by
  by_cases h0 : n = 0
  · subst h0
    exact (Tryd.slices_Contains_string_empty s.a c x w).mono fun e w' ⟨h1, h2⟩ => ⟨by rw [h1]; rfl, h2⟩
  · obtain ⟨b, o, ha, _⟩ := hs.cell (show 0 < l.length by omega)
    rw [ha]
    refine Tryd.slices_Contains_string b o n c l x w hn (by omega) fun j hj => ?_
    obtain ⟨b', o', ha', hc⟩ := hs.cell hj
    rw [ha] at ha'
    simp only [Option.some.injEq, Addr.mk.injEq] at ha'
    obtain ⟨rfl, rfl, _⟩ := ha'
    rw [hc]
    simp [List.getD, hj]

theorem containsInt_any (s : SV) (l : List Int) (x : Int) (w : World) (hs : IntsAt w s l) (hb : l.length ≤ 9223372036854775807) :
    Calls Tryd.prog 68 #[.slice s.a s.len s.cap, .int .i64 x] w fun e w' => e = .returned (.bool (l.contains x)) ∧ w' = w := by
  by_cases h0 : l.length = 0
  · have : l = [] := List.length_eq_zero_iff.1 h0
    subst this
    rw [hs.1]
    exact Tryd.slices_Contains_int_empty s.a s.cap x w
  · obtain ⟨b, o, ha, _⟩ := hs.cell (show 0 < l.length by omega)
    rw [ha, hs.1]
    have := Tryd.slices_Contains_int b o l.length s.cap l x w (Nat.le_refl _) (by omega) fun j hj => by
      obtain ⟨b', o', ha', hc⟩ := hs.cell hj
      rw [ha] at ha'
      simp only [Option.some.injEq, Addr.mk.injEq] at ha'
      obtain ⟨rfl, rfl, _⟩ := ha'
      rw [hc]
      simp [List.getD, hj]
    rwa [List.take_length] at this

def nameOkAt (l : List ByteArray) (i : Nat) : Bool := namedL (l.getD i ByteArray.empty).toList && !Lib.containsS (l.take i) (l.getD i ByteArray.empty)
def goodNamesL (l : List ByteArray) : Bool := (List.range l.length).all (nameOkAt l)

set_option maxHeartbeats 800000 in
theorem goodNames_any (s : SV) (l : List ByteArray) (w : World) (hs : StrsAt w s l) (hw : WordsAt w) (hn : l.length ≤ 9223372036854775807) (hc : s.len ≤ s.cap) (hsz : ∀ x ∈ l, x.size ≤ 9223372036854775807) :
    Calls Tryd.prog 53 #[.slice s.a s.len s.cap] w fun e w' => e = .returned (.bool (goodNamesL l)) ∧ Ext w w' := by
  obtain ⟨a, n, cap⟩ := s
  have hl := hs.1
  simp only at hl
  subst hl
  show Calls Tryd.prog 53 #[.slice a l.length cap] w _
  simp only at hc
  go_enter Tryd.func53, Tryd.ntmps53
  go_wp2
  go_loopw [7] (fun i wr => ∃ k : Nat, k ≤ l.length ∧ i = .int .i64 k ∧ AllTo (nameOkAt l) k ∧ Ext w wr) (fun i wr => l.length - (intOf i).toNat)
  case atStart => exact ⟨0, by omega, rfl, AllTo.zero _, Ext.refl w⟩
  case round =>
    obtain ⟨k, hk, rfl, hne, hx⟩ := hrel
    by_cases hlt : k < l.length
    · obtain ⟨b, o, rfl, h0⟩ := hs.cell hlt
      replace h0 := hx.cell h0
      have hwr := hw.ext hx
      have hsr := hs.ext hx
      have hkk : l.getD k ByteArray.empty = l[k] := by simp [List.getD, hlt]
      have hsk := hsz l[k] (List.getElem_mem hlt)
      cases hnm : namedL l[k].toList
      · have e : nameOkAt l k = false := by unfold nameOkAt; rw [hkk, hnm]; rfl
        have Hn : Hid (namedL l[k].toList = false) := hnm
        clear hnm hkk hsz hs
        go_wp2_with (go_at_call 32; refine (named_any _ _ hwr hsk).mono ?_; rintro e w' ⟨rfl, rfl⟩; rw [Hn.out])
        go_ret
        exact ⟨by rw [show goodNamesL l = false from not_all_range hlt e]; rfl, hx⟩
      · cases hct : Lib.containsS (l.take k) l[k]
        · have e : nameOkAt l k = true := by unfold nameOkAt; rw [hkk, hnm, hct]; rfl
          have Hn : Hid (namedL l[k].toList = true) := hnm
          have Hc : Hid (Lib.containsS (l.take k) l[k] = false) := hct
          clear hnm hkk hsz hs hct
          go_wp2_with (first | (go_at_call 32; refine (named_any _ _ hwr hsk).mono ?_; rintro e w' ⟨rfl, rfl⟩; rw [Hn.out]) | (go_at_call 71; refine (containsStr_any ⟨some ⟨b, o, none⟩, l.length, cap⟩ l k cap l[k] _ hsr (by omega) hn).mono ?_; rintro e w' ⟨rfl, rfl⟩; rw [Hc.out]))
          exact ⟨⟨k + 1, by omega, by go_num, hne.succ e, hx⟩, by simp [intOf]; omega⟩
        · have e : nameOkAt l k = false := by unfold nameOkAt; rw [hkk, hnm, hct]; rfl
          have Hn : Hid (namedL l[k].toList = true) := hnm
          have Hc : Hid (Lib.containsS (l.take k) l[k] = true) := hct
          clear hnm hkk hsz hs hct
          go_wp2_with (first | (go_at_call 32; refine (named_any _ _ hwr hsk).mono ?_; rintro e w' ⟨rfl, rfl⟩; rw [Hn.out]) | (go_at_call 71; refine (containsStr_any ⟨some ⟨b, o, none⟩, l.length, cap⟩ l k cap l[k] _ hsr (by omega) hn).mono ?_; rintro e w' ⟨rfl, rfl⟩; rw [Hc.out]))
          go_ret
          exact ⟨by rw [show goodNamesL l = false from not_all_range hlt e]; rfl, hx⟩
    · go_wp2
      go_ret
      exact ⟨by rw [show goodNamesL l = true from AllTo.all hne (by omega)]; rfl, hx⟩
end Go.Proofs.YtblkgaoafejefaaDoor
